/- Waves that lie in blocks of a call's own. Condition: none. -/
import Derived.Test.YtjmfffgddmnkmabM14
namespace Go.Proofs.Ytjmfffgddmnkmab
open Go Go.RowKit

/-- the waves that lie in a world, all that was before as it was -/
def Lay (L : List (Nat × Array Value)) (w wr : World) : Prop := (∀ (i b : Nat) (D : Array Value), L[i]? = some (b, D) → wr.heap[b]? = some (.cells D 30 (0, 0))) ∧ Below w.heap.size w wr
theorem Lay.nil (w : World) : Lay [] w w := ⟨fun i b D h => by simp at h, Below.refl _ _⟩
theorem Lay.at {L : List (Nat × Array Value)} {w a : World} (h : Lay L w a) (i : Nat) {b : Nat} {D : Array Value} (hi : L[i]? = some (b, D)) : a.heap[b]? = some (.cells D 30 (0, 0)) := h.1 i b D hi
theorem Lay.below {L : List (Nat × Array Value)} {w a c : World} (h : Lay L w a) (b : Below a.heap.size a c) : Lay L w c :=
  ⟨fun i p D hi => by rw [b.block _ (Array.getElem?_eq_some_iff.1 (h.1 i p D hi)).1]; exact h.1 i p D hi, h.2.trans (b.mono h.2.size)⟩
theorem Lay.drewN {L : List (Nat × Array Value)} {w a : World} (h : Lay L w a) (n : Nat) : Lay L w (a.drewN n) := ⟨h.1, below_drewN h.2 n⟩
theorem Lay.push {L : List (Nat × Array Value)} {w a : World} (h : Lay L w a) (D : Array Value) : Lay ((a.heap.size, D) :: L) w (a.alloc (.cells D 30)) := by
  refine ⟨fun i p E hi => ?_, h.2.alloc h.2.size _⟩
  cases i with
  | zero =>
    simp only [List.getElem?_cons_zero, Option.some.injEq, Prod.mk.injEq] at hi
    obtain ⟨rfl, rfl⟩ := hi
    exact h1_0 _ _
  | succ i =>
    rw [List.getElem?_cons_succ] at hi
    have := h.1 i p E hi
    rw [heap_alloc_old _ _ (Array.getElem?_eq_some_iff.1 this).1]
    exact this
theorem Lay.alloc {L : List (Nat × Array Value)} {w a : World} (h : Lay L w a) (o : Obj) : Lay L w (a.alloc o) :=
  ⟨fun i p E hi => by rw [heap_alloc_old _ _ (Array.getElem?_eq_some_iff.1 (h.1 i p E hi)).1]; exact h.1 i p E hi, h.2.alloc h.2.size _⟩
/-- a wave less -/
theorem Lay.pop {p : Nat × Array Value} {L : List (Nat × Array Value)} {w a : World} (h : Lay (p :: L) w a) : Lay L w a := ⟨fun i b D hi => h.1 (i + 1) b D (by rw [List.getElem?_cons_succ]; exact hi), h.2⟩
theorem Lay.setCell {b : Nat} {C : Array Value} {L : List (Nat × Array Value)} {w a : World} (h : Lay ((b, C) :: L) w a) (hb : w.heap.size ≤ b) (hL : ∀ p ∈ L, p.1 ≠ b) (j : Nat) (v : Value) : Lay ((b, C.setIfInBounds j v) :: L) w (a.setCell ⟨b, j, none⟩ v) := by
  refine ⟨fun i p E hi => ?_, h.2.setCell (p := ⟨b, j, none⟩) hb v⟩
  cases i with
  | zero =>
    simp only [List.getElem?_cons_zero, Option.some.injEq, Prod.mk.injEq] at hi
    obtain ⟨rfl, rfl⟩ := hi
    exact heap_setCell_same _ _ _ _ _ _ (h.1 0 b C rfl)
  | succ i =>
    rw [List.getElem?_cons_succ] at hi
    have hne := hL _ (List.mem_of_getElem? hi)
    rw [Below.heap_setCell a ⟨b, j, none⟩ v p (fun e => hne e)]
    exact h.1 (i + 1) p E (by rw [List.getElem?_cons_succ]; exact hi)
theorem Lay.setRow {b : Nat} {C : Array Value} {L : List (Nat × Array Value)} {w a : World} (h : Lay ((b, C) :: L) w a) (hb : w.heap.size ≤ b) (hL : ∀ p ∈ L, p.1 ≠ b) (F : Array Value) : Lay ((b, F) :: L) w (a.setRow b F) := by
  refine ⟨fun i p E hi => ?_, below_setRow h.2 hb _⟩
  cases i with
  | zero =>
    simp only [List.getElem?_cons_zero, Option.some.injEq, Prod.mk.injEq] at hi
    obtain ⟨rfl, rfl⟩ := hi
    exact setRow_heap _ _ _ _ _ _ (h.1 0 b C rfl)
  | succ i =>
    rw [List.getElem?_cons_succ] at hi
    have hne := hL _ (List.mem_of_getElem? hi)
    rw [heap_setRow_other _ _ _ _ hne]
    exact h.1 (i + 1) p E (by rw [List.getElem?_cons_succ]; exact hi)
theorem lay1 (w : World) (D : Array Value) : Lay [(w.heap.size, D)] w (w.alloc (.cells D 30)) := (Lay.nil w).push D
theorem lay2 (w : World) (D E : Array Value) : Lay [(w.heap.size + 1, E), (w.heap.size, D)] w ((w.alloc (.cells D 30)).alloc (.cells E 30)) := by
  have h := (lay1 w D).push E
  rwa [size_al] at h
theorem lay3 (w : World) (D E F : Array Value) : Lay [(w.heap.size + 1 + 1, F), (w.heap.size + 1, E), (w.heap.size, D)] w (((w.alloc (.cells D 30)).alloc (.cells E 30)).alloc (.cells F 30)) := by
  have h := (lay2 w D E).push F
  rwa [size_al, size_al] at h
/-- in another order -/
theorem Lay.swap {p q : Nat × Array Value} {L : List (Nat × Array Value)} {w a : World} (h : Lay (p :: q :: L) w a) : Lay (q :: p :: L) w a :=
  ⟨fun i b D hi => by
    match i with
    | 0 => exact h.1 1 b D hi
    | 1 => exact h.1 0 b D hi
    | i + 2 => exact h.1 (i + 2) b D hi, h.2⟩
theorem Lay.roll {p q r : Nat × Array Value} {L : List (Nat × Array Value)} {w a : World} (h : Lay (p :: q :: r :: L) w a) : Lay (r :: p :: q :: L) w a :=
  ⟨fun i b D hi => by
    match i with
    | 0 => exact h.1 2 b D hi
    | 1 => exact h.1 0 b D hi
    | 2 => exact h.1 1 b D hi
    | i + 3 => exact h.1 (i + 3) b D hi, h.2⟩
theorem Lay.cell {L : List (Nat × Array Value)} {w a : World} (h : Lay L w a) (i : Nat) {b : Nat} {D : Array Value} (hi : L[i]? = some (b, D)) (j : Nat) : a.cell? ⟨b, j, none⟩ = D[j]? := cell_of_row _ _ _ _ _ _ (h.1 i b D hi)
theorem Lay.free {L : List (Nat × Array Value)} {w a : World} (h : Lay L w a) (i : Nat) {b : Nat} {D : Array Value} (hi : L[i]? = some (b, D)) (j : Nat) : a.frozen? ⟨b, j, none⟩ = false := frozen_of_row _ _ _ _ _ (h.1 i b D hi)
end Go.Proofs.Ytjmfffgddmnkmab
