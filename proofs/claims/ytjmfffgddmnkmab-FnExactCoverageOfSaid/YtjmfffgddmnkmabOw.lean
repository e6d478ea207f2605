/- Lists of whole numbers that lie in memory: what a call knows of a list that came in, and of one that it made itself. Condition: none. -/
import Derived.Test.YtjmfffgddmnkmabProg
import Derived.WalkKit
import Derived.Below
import Derived.Laws.OwnMore
import Derived.OwnWalk
import Derived.Deep.Onto
namespace Go.Proofs.Ytjmfffgddmnkmab
open Go Go.RowKit

/-- the slice v lies in a block from B on and holds the whole numbers L -/
def Own (B : Nat) (v : Value) (L : List Int) (w : World) : Prop := w.ownsRow B 2 1 v L.length (L.map (Value.int .i64))

theorem Own.zero (B : Nat) (w : World) : Own B (.slice none 0 0) [] w := World.ownsRow_nil _ _ _ _
theorem Own.mono {B B' : Nat} {v : Value} {L : List Int} {w : World} (h : Own B v L w) (hb : B' ≤ B) : Own B' v L w := World.ownsRow.mono h hb
theorem Own.alloc {B : Nat} {v : Value} {L : List Int} {w : World} (h : Own B v L w) (o : Obj) : Own B v L (w.alloc o) := World.ownsRow.alloc h o
theorem Own.drew {B : Nat} {v : Value} {L : List Int} {w : World} (h : Own B v L w) : Own B v L w.drew := h

theorem Own.below {B C : Nat} {v : Value} {L : List Int} {w u : World} (h : Own B v L w) (k : Below C w u) (hC : w.heap.size ≤ C) : Own B v L u := by
  refine ⟨h.1, ?_⟩
  rcases h.2 with h2 | ⟨g, cap, cur, hv, hb, hg, r⟩
  · exact .inl h2
  · have hlt : g < w.heap.size := by
      rcases Nat.lt_or_ge g w.heap.size with h | h
      · exact h
      · rw [Array.getElem?_eq_none h] at hg; cases hg
    exact .inr ⟨g, cap, cur, hv, hb, by rw [k.block g (by omega)]; exact hg, r⟩

/-- a list that isn't empty lies in a block -/
theorem Own.form {B : Nat} {v : Value} {L : List Int} {w : World} (h : Own B v L w) (h0 : 0 < L.length) :
    ∃ g cap, v = .slice (some ⟨g, 0, none⟩) L.length cap ∧ B ≤ g ∧ g < w.heap.size := by
  rcases h.2 with ⟨_, h2⟩ | ⟨g, cap, cur, hv, hb, hg, r⟩
  · omega
  · have hlt : g < w.heap.size := by
      rcases Nat.lt_or_ge g w.heap.size with h | h
      · exact h
      · rw [Array.getElem?_eq_none h] at hg; cases hg
    exact ⟨g, cap, hv, hb, hlt⟩

/-- it is one with no address or one at the head of a block -/
theorem Own.kind {B : Nat} {v : Value} {L : List Int} {w : World} (h : Own B v L w) :
    (L = [] ∧ v = .slice none 0 0) ∨ ∃ g cap, v = .slice (some ⟨g, 0, none⟩) L.length cap ∧ B ≤ g ∧ g < w.heap.size := by
  rcases h.2 with ⟨hv, h2⟩ | ⟨g, cap, cur, hv, hb, hg, r⟩
  · exact .inl ⟨List.length_eq_zero_iff.1 h2, hv⟩
  · have hlt : g < w.heap.size := by
      rcases Nat.lt_or_ge g w.heap.size with h | h
      · exact h
      · rw [Array.getElem?_eq_none h] at hg; cases hg
    exact .inr ⟨g, cap, hv, hb, hlt⟩

theorem take_succ_getD (L : List Int) (k : Nat) (hk : k < L.length) : L.take (k + 1) = L.take k ++ [L.getD k 0] := by
  rw [List.take_add_one, List.getD_eq_getElem?_getD, List.getElem?_eq_getElem hk]; rfl
theorem map_getD (L : List Int) (i : Nat) (h : i < L.length) : (L.map (Value.int .i64))[i]? = some (.int .i64 (L.getD i 0)) := by
  rw [List.getElem?_map, List.getElem?_eq_getElem h, List.getD_eq_getElem?_getD, List.getElem?_eq_getElem h]; rfl

theorem Own.cell {B g cap : Nat} {L : List Int} {w : World} (h : Own B (.slice (some ⟨g, 0, none⟩) L.length cap) L w) (i : Nat) (hi : i < L.length) :
    w.cell? ⟨g, i, none⟩ = some (.int .i64 (L.getD i 0)) := by
  rw [World.ownsRow.cellAt h i (by omega)]
  exact map_getD L i hi

theorem Own.free {B g cap : Nat} {L : List Int} {w : World} (h : Own B (.slice (some ⟨g, 0, none⟩) L.length cap) L w) (i : Nat) :
    w.frozen? ⟨g, i, none⟩ = false := World.ownsRow.frozenAt h _

theorem Own.stored {B g cap : Nat} {L : List Int} {w : World} (h : Own B (.slice (some ⟨g, 0, none⟩) L.length cap) L w) (i : Nat) (x : Int) :
    Own B (.slice (some ⟨g, 0, none⟩) L.length cap) (L.set i x) (w.setCell ⟨g, i, none⟩ (.int .i64 x)) := by
  have h1 := (World.ownsRow.stored h i (.int .i64 x)).1
  unfold Own
  rw [List.length_set, List.map_set]
  exact h1

theorem Own.cap {B g n cap : Nat} {L : List Int} {w : World} (h : Own B (.slice (some ⟨g, 0, none⟩) n cap) L w) : n = L.length ∧ L.length ≤ cap ∧ cap ≤ maxLen := by
  rcases h.2 with ⟨hv, _⟩ | ⟨g', cap', cur, hv, hb, hg, hn, hm, _⟩
  · cases hv
  · cases hv
    exact ⟨rfl, hn, hm⟩

/-- what is known of a list that came in -/
def Came (a : Option Addr) (n : Nat) (L : List Int) (w : World) : Prop :=
  L.length = n ∧ (0 < n → ∃ b off, a = some ⟨b, off, none⟩ ∧ b < w.heap.size ∧ ∀ i, i < n → w.cell? ⟨b, off + i, none⟩ = some (.int .i64 (L.getD i 0)))

theorem Came.below {C : Nat} {a : Option Addr} {n : Nat} {L : List Int} {w u : World} (h : Came a n L w) (k : Below C w u) (hC : w.heap.size ≤ C) : Came a n L u := by
  refine ⟨h.1, fun hn => ?_⟩
  obtain ⟨b, off, ha, hb, hc⟩ := h.2 hn
  exact ⟨b, off, ha, by have := k.size; omega, fun i hi => by rw [k.cell (p := ⟨b, off + i, none⟩) (show b < C by omega)]; exact hc i hi⟩

theorem info64 : (Try.prog.info? 2).map (fun i => (i.zero, i.size, i.bytes)) = some (some (.int .i64 0), 1, 8) := by kernel_rfl

end Go.Proofs.Ytjmfffgddmnkmab
