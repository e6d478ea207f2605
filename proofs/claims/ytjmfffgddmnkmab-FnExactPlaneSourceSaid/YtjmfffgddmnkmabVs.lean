/- Lists of lists of whole numbers that lie in memory. Condition: none. -/
import Derived.Test.YtjmfffgddmnkmabHk
namespace Go.Proofs.Ytjmfffgddmnkmab
open Go Go.RowKit

/-- a list of lists that came in -/
def CameS (a : Option Addr) (n : Nat) (Ls : List (List Int)) (w : World) : Prop :=
  Ls.length = n ∧ (0 < n → ∃ b off, a = some ⟨b, off, none⟩ ∧ b < w.heap.size ∧ ∀ i, i < n → ∃ ai ci, w.cell? ⟨b, off + i, none⟩ = some (.slice ai (Ls.getD i []).length ci) ∧ Came ai (Ls.getD i []).length (Ls.getD i []) w)
theorem CameS.below {C n : Nat} {a : Option Addr} {Ls : List (List Int)} {w u : World} (h : CameS a n Ls w) (k : Below C w u) (hC : w.heap.size ≤ C) : CameS a n Ls u := by
  refine ⟨h.1, fun hn => ?_⟩
  obtain ⟨b, off, ha, hb, hc⟩ := h.2 hn
  refine ⟨b, off, ha, by have := k.size; omega, fun i hi => ?_⟩
  obtain ⟨ai, ci, h1, h2⟩ := hc i hi
  exact ⟨ai, ci, by rw [k.cell (p := ⟨b, off + i, none⟩) (show b < C by omega)]; exact h1, h2.below k hC⟩
/-- one row of it -/
theorem CameS.at {n : Nat} {a : Option Addr} {Ls : List (List Int)} {w : World} (h : CameS a n Ls w) (i : Nat) (hi : i < n) :
    ∃ b off ai ci, a = some ⟨b, off, none⟩ ∧ b < w.heap.size ∧ w.cell? ⟨b, off + i, none⟩ = some (.slice ai (Ls.getD i []).length ci) ∧ Came ai (Ls.getD i []).length (Ls.getD i []) w := by
  obtain ⟨b, off, ha, hb, hc⟩ := h.2 (by omega)
  obtain ⟨ai, ci, h1, h2⟩ := hc i hi
  exact ⟨b, off, ai, ci, ha, hb, h1, h2⟩

/-- the headers' blocks are apart from each other and from the one that they lie in -/
def Parted (v : Value) (hs : List Value) : Prop :=
  (∀ (i : Nat) (vi : Value) (k : Nat), hs[i]? = some vi → vi.ownBlock = some k → v.ownBlock ≠ some k) ∧
  ∀ (i j : Nat) (vi vj : Value) (k : Nat), i < j → hs[i]? = some vi → hs[j]? = some vj → vi.ownBlock = some k → vj.ownBlock ≠ some k
/-- a list of lists of the call's own -/
def OwnS (B : Nat) (v : Value) (Ls : List (List Int)) (w : World) : Prop :=
  ∃ hs : List Value, w.ownsRow B 36 1 v Ls.length hs ∧ Parted v hs ∧ ∀ i, i < Ls.length → ∃ vi, hs[i]? = some vi ∧ Own B vi (Ls.getD i []) w

theorem OwnS.below {B C : Nat} {v : Value} {Ls : List (List Int)} {w u : World} (h : OwnS B v Ls w) (k : Below C w u) (hC : w.heap.size ≤ C) : OwnS B v Ls u := by
  obtain ⟨hs, h1, hp, hr⟩ := h
  refine ⟨hs, ⟨h1.1, ?_⟩, hp, fun i hi => ?_⟩
  · rcases h1.2 with h2 | ⟨g, cap, cur, hv, hb, hg, r⟩
    · exact .inl h2
    · have hlt : g < w.heap.size := (Array.getElem?_eq_some_iff.1 hg).1
      exact .inr ⟨g, cap, cur, hv, hb, by rw [k.block g (by omega)]; exact hg, r⟩
  · obtain ⟨vi, e, o⟩ := hr i hi
    exact ⟨vi, e, o.below k hC⟩
theorem OwnS.came {B : Nat} {v : Value} {Ls : List (List Int)} {w : World} (h : OwnS B v Ls w) : ∃ a c, v = .slice a Ls.length c ∧ CameS a Ls.length Ls w := by
  obtain ⟨hs, h1, hp, hr⟩ := h
  have h1' := h1
  rcases h1.2 with ⟨hv, h2⟩ | ⟨g, cap, cur, hv, hb, hg, r⟩
  · refine ⟨none, 0, by rw [hv, h2], rfl, fun h0 => absurd h0 (by omega)⟩
  · have hlt : g < w.heap.size := (Array.getElem?_eq_some_iff.1 hg).1
    refine ⟨some ⟨g, 0, none⟩, cap, hv, rfl, fun _ => ⟨g, 0, rfl, hlt, fun i hi => ?_⟩⟩
    obtain ⟨vi, e, o⟩ := hr i hi
    obtain ⟨ai, ci, rfl, k⟩ := o.came
    rw [hv] at h1'
    exact ⟨ai, ci, by rw [Nat.zero_add, World.ownsRow.cellAt h1' i (by omega), e], k⟩

/-- between two worlds nothing but blocks from lo to hi has been written -/
structure Zone (lo hi : Nat) (w w' : World) : Prop where
  os : w'.os = w.os
  tape : w'.tape = w.tape
  output : w'.output = w.output
  size : w'.heap.size = w.heap.size
  block : ∀ k, (k < lo ∨ hi ≤ k) → w'.heap[k]? = w.heap[k]?
theorem Zone.refl (lo hi : Nat) (w : World) : Zone lo hi w w := ⟨rfl, rfl, rfl, rfl, fun _ _ => rfl⟩
theorem Zone.below {lo hi C : Nat} {w u v : World} (h : Zone lo hi u v) (k : Below C w u) (hC : C ≤ lo) : Below C w v :=
  ⟨h.os.trans k.os, h.tape.trans k.tape, h.output.trans k.output, by have := h.size; have := k.size; omega, fun j hj => (h.block j (.inl (by omega))).trans (k.block j hj)⟩
theorem Zone.step {lo hi : Nat} {w u v : World} {row : Option Nat} (h : Zone lo hi w u) (g : u.grownBy v row) (hs : v.heap.size = u.heap.size) (hr : ∀ k, row = some k → lo ≤ k ∧ k < hi) : Zone lo hi w v := by
  refine ⟨g.os.trans h.os, g.tape.trans h.tape, g.output.trans h.output, hs.trans h.size, fun k hk => ?_⟩
  rw [← h.block k hk]
  by_cases hlt : k < u.heap.size
  · refine g.block k hlt fun e => ?_
    have := hr k e.symm
    omega
  · rw [Array.getElem?_eq_none (by omega), Array.getElem?_eq_none (by omega)]

end Go.Proofs.Ytjmfffgddmnkmab
