/- Lists of float32 numbers that lie in memory: what a call knows of a list that came in, and of one that it made itself. Condition: none. The places that lists of a call lie in are apart: what is written in one leaves the others. Condition: none. -/
import Derived.Test.YtclflnpbiiimiaaM5
import Derived.WalkKit
import Derived.Below
import Derived.Laws.OwnMore
import Derived.OwnWalk
import Derived.Deep.Onto
import Derived.Lib.Hide
namespace Go.Proofs.Ytclflnpbiiimiaa
open Go Go.RowKit

/-- the slice v lies in a block from B on and holds the numbers L -/
def OwnF (B : Nat) (v : Value) (L : List Nat) (w : World) : Prop := w.ownsRow B 40 1 v L.length (L.map (Value.float .f32))

theorem OwnF.zero (B : Nat) (w : World) : OwnF B (.slice none 0 0) [] w := World.ownsRow_nil _ _ _ _
theorem OwnF.mono {B B' : Nat} {v : Value} {L : List Nat} {w : World} (h : OwnF B v L w) (hb : B' ≤ B) : OwnF B' v L w := World.ownsRow.mono h hb
theorem OwnF.alloc {B : Nat} {v : Value} {L : List Nat} {w : World} (h : OwnF B v L w) (o : Obj) : OwnF B v L (w.alloc o) := World.ownsRow.alloc h o
theorem OwnF.drew {B : Nat} {v : Value} {L : List Nat} {w : World} (h : OwnF B v L w) : OwnF B v L w.drew := h

theorem OwnF.below {B C : Nat} {v : Value} {L : List Nat} {w u : World} (h : OwnF B v L w) (k : Below C w u) (hC : w.heap.size ≤ C) : OwnF B v L u := by
  refine ⟨h.1, ?_⟩
  rcases h.2 with h2 | ⟨g, cap, cur, hv, hb, hg, r⟩
  · exact .inl h2
  · have hlt : g < w.heap.size := by
      rcases Nat.lt_or_ge g w.heap.size with h | h
      · exact h
      · rw [Array.getElem?_eq_none h] at hg; cases hg
    exact .inr ⟨g, cap, cur, hv, hb, by rw [k.block g (by omega)]; exact hg, r⟩

/-- a list that isn't empty lies in a block -/
theorem OwnF.form {B : Nat} {v : Value} {L : List Nat} {w : World} (h : OwnF B v L w) (h0 : 0 < L.length) :
    ∃ g cap, v = .slice (some ⟨g, 0, none⟩) L.length cap ∧ B ≤ g ∧ g < w.heap.size := by
  rcases h.2 with ⟨_, h2⟩ | ⟨g, cap, cur, hv, hb, hg, r⟩
  · omega
  · have hlt : g < w.heap.size := by
      rcases Nat.lt_or_ge g w.heap.size with h | h
      · exact h
      · rw [Array.getElem?_eq_none h] at hg; cases hg
    exact ⟨g, cap, hv, hb, hlt⟩

/-- it is one with no address or one at the head of a block -/
theorem OwnF.kind {B : Nat} {v : Value} {L : List Nat} {w : World} (h : OwnF B v L w) :
    (L = [] ∧ v = .slice none 0 0) ∨ ∃ g cap, v = .slice (some ⟨g, 0, none⟩) L.length cap ∧ B ≤ g ∧ g < w.heap.size := by
  rcases h.2 with ⟨hv, h2⟩ | ⟨g, cap, cur, hv, hb, hg, r⟩
  · exact .inl ⟨List.length_eq_zero_iff.1 h2, hv⟩
  · have hlt : g < w.heap.size := by
      rcases Nat.lt_or_ge g w.heap.size with h | h
      · exact h
      · rw [Array.getElem?_eq_none h] at hg; cases hg
    exact .inr ⟨g, cap, hv, hb, hlt⟩

theorem take_succ_getDF (L : List Nat) (k : Nat) (hk : k < L.length) : L.take (k + 1) = L.take k ++ [L.getD k 0] := by
  rw [List.take_add_one, List.getD_eq_getElem?_getD, List.getElem?_eq_getElem hk]; rfl
theorem map_getDF (L : List Nat) (i : Nat) (h : i < L.length) : (L.map (Value.float .f32))[i]? = some (.float .f32 (L.getD i 0)) := by
  rw [List.getElem?_map, List.getElem?_eq_getElem h, List.getD_eq_getElem?_getD, List.getElem?_eq_getElem h]; rfl

theorem OwnF.cell {B g cap : Nat} {L : List Nat} {w : World} (h : OwnF B (.slice (some ⟨g, 0, none⟩) L.length cap) L w) (i : Nat) (hi : i < L.length) :
    w.cell? ⟨g, i, none⟩ = some (.float .f32 (L.getD i 0)) := by
  rw [World.ownsRow.cellAt h i (by omega)]
  exact map_getDF L i hi

theorem OwnF.free {B g cap : Nat} {L : List Nat} {w : World} (h : OwnF B (.slice (some ⟨g, 0, none⟩) L.length cap) L w) (i : Nat) :
    w.frozen? ⟨g, i, none⟩ = false := World.ownsRow.frozenAt h _

theorem OwnF.stored {B g cap : Nat} {L : List Nat} {w : World} (h : OwnF B (.slice (some ⟨g, 0, none⟩) L.length cap) L w) (i : Nat) (x : Nat) :
    OwnF B (.slice (some ⟨g, 0, none⟩) L.length cap) (L.set i x) (w.setCell ⟨g, i, none⟩ (.float .f32 x)) := by
  have h1 := (World.ownsRow.stored h i (.float .f32 x)).1
  unfold OwnF
  rw [List.length_set, List.map_set]
  exact h1

theorem OwnF.cap {B g n cap : Nat} {L : List Nat} {w : World} (h : OwnF B (.slice (some ⟨g, 0, none⟩) n cap) L w) : n = L.length ∧ L.length ≤ cap ∧ cap ≤ maxLen := by
  rcases h.2 with ⟨hv, _⟩ | ⟨g', cap', cur, hv, hb, hg, hn, hm, _⟩
  · cases hv
  · cases hv
    exact ⟨rfl, hn, hm⟩

/-- what is known of a list that came in -/
def CameF (a : Option Addr) (n : Nat) (L : List Nat) (w : World) : Prop :=
  L.length = n ∧ (0 < n → ∃ b off, a = some ⟨b, off, none⟩ ∧ b < w.heap.size ∧ ∀ i, i < n → w.cell? ⟨b, off + i, none⟩ = some (.float .f32 (L.getD i 0)))

theorem CameF.below {C : Nat} {a : Option Addr} {n : Nat} {L : List Nat} {w u : World} (h : CameF a n L w) (k : Below C w u) (hC : w.heap.size ≤ C) : CameF a n L u := by
  refine ⟨h.1, fun hn => ?_⟩
  obtain ⟨b, off, ha, hb, hc⟩ := h.2 hn
  exact ⟨b, off, ha, by have := k.size; omega, fun i hi => by rw [k.cell (p := ⟨b, off + i, none⟩) (show b < C by omega)]; exact hc i hi⟩

theorem infoF : (Try.prog.info? 40).map (fun i => (i.zero, i.size, i.bytes)) = some (some (.float .f32 0), 1, 4) := by kernel_rfl

end Go.Proofs.Ytclflnpbiiimiaa

namespace Go.Proofs.Ytclflnpbiiimiaa
open Go Go.RowKit

/-- a list's block lies between two numbers -/
def Rng (v : Value) (lo hi : Nat) : Prop := ∀ k, v.ownBlock = some k → lo ≤ k ∧ k < hi
theorem Own.rng {B : Nat} {v : Value} {L : List Int} {w : World} (h : Own B v L w) : Rng v B w.heap.size := World.ownsRow.lt h
theorem Own.grown {B lo hi : Nat} {v : Value} {L : List Int} {w w' : World} {row : Option Nat} (h : Own B v L w) (g : w.grownBy w' row) (r : Rng v lo hi) (a : ∀ k, row = some k → k < lo ∨ hi ≤ k) : Own B v L w' := by
  refine World.ownsRow.kept h g ?_
  cases hb : v.ownBlock
  · exact .inl rfl
  · right
    intro e
    have := r _ hb
    have := a _ e.symm
    omega

/-- what is asked of program and model: a list and a code, in memory of their own -/
def Lists (f : FuncId) (n : Int) (L R : List Int) (c : Int) : Prop :=
  L.length ≤ 1048576 → ∀ v w, Own 0 v L w → Calls Try.prog f #[.int .i64 n, v] w fun e w' => ∃ r, e = .returned (.tuple #[r, .int .i64 c]) ∧ Own w.heap.size r R w' ∧ Below w.heap.size w w'

end Go.Proofs.Ytclflnpbiiimiaa
