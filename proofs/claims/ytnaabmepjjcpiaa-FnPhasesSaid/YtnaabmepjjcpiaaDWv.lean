/- Waves that were drawn: their cells, and a store into one. Condition: none. -/
import Derived.Test.YtnaabmepjjcpiaaDFl
import Derived.Test.YtnaabmepjjcpiaaSpecW
namespace Go.Proofs.Ytnaabmepjjcpiaa
open Go Go.RowKit

/-- the cells of a wave of a side: complex numbers, if only some -/
def Wav (s : Int) (D : Array Value) : Prop := D.size = 65 ∧ D[0]? = some (.int .i64 s) ∧ ∀ k, k < 64 → ∃ x y, D[1 + k]? = some (.complex .f32 x y)

/-- a wave was drawn -/
def WavD (p : Nat) (s : Int) (w : World) (e : Ending) (w' : World) : Prop := ∃ D, e = .returned (.agg D) ∧ Wav s D ∧ Src p w' ∧ Own p w w'

theorem wav_fill (s : Int) (f : Nat → Nat) (k : Nat) : Wav s (pic s (fill f k)) := by
  refine ⟨pic_size _ _ (fill_size _ _), pic_zero _ _, fun i hi => ?_⟩
  rw [Nat.add_comm, pic_succ, fill_get, if_pos hi]
  by_cases h : i < k
  · rw [if_pos h]; exact ⟨_, _, rfl⟩
  · rw [if_neg h]; exact ⟨_, _, rfl⟩
theorem wav_zc (s : Int) : Wav s (pic s zc) := by rw [← fill_zero (fun _ => 0)]; exact wav_fill _ _ _
theorem wav_one {s : Int} {D : Array Value} (h : Wav s D) : D.all (·.oneCell') = true := by
  rw [Array.all_eq_true]
  intro i hi
  cases i with
  | zero =>
    have e := h.2.1
    rw [Array.getElem?_eq_getElem hi] at e
    rw [Option.some.inj e]
    rfl
  | succ k =>
    obtain ⟨x, y, e⟩ := h.2.2 k (by have := h.1; omega)
    rw [Nat.add_comm, Array.getElem?_eq_getElem hi] at e
    rw [Option.some.inj e]
    rfl
theorem wav_set {s : Int} {D : Array Value} (h : Wav s D) (k x y : Nat) : Wav s (D.setIfInBounds (1 + k) (.complex .f32 x y)) := by
  refine ⟨by rw [Array.size_setIfInBounds]; exact h.1, ?_, fun i hi => ?_⟩
  · rw [Array.getElem?_setIfInBounds_ne (by omega)]; exact h.2.1
  · by_cases e : k = i
    · subst e
      rw [Array.getElem?_setIfInBounds_self_of_lt (by rw [h.1]; omega)]
      exact ⟨x, y, rfl⟩
    · rw [Array.getElem?_setIfInBounds_ne (by omega)]
      exact h.2.2 i hi
theorem wav_side {s t : Int} {D : Array Value} (h : Wav s D) : Wav t (D.setIfInBounds 0 (.int .i64 t)) := by
  refine ⟨by rw [Array.size_setIfInBounds]; exact h.1, ?_, fun i hi => ?_⟩
  · rw [Array.getElem?_setIfInBounds_self_of_lt (by rw [h.1]; omega)]
  · rw [Array.getElem?_setIfInBounds_ne (by omega)]
    exact h.2.2 i hi
theorem wav_no {s : Int} {D : Array Value} (h : Wav s D) (j : Nat) (b : Int) : D[j]? ≠ some (.int .u8 b) := by
  intro e
  cases j with
  | zero => rw [h.2.1] at e; cases e
  | succ k =>
    by_cases hk : k < 64
    · obtain ⟨x, y, e2⟩ := h.2.2 k hk
      rw [Nat.add_comm] at e2
      rw [e2] at e
      cases e
    · rw [Array.getElem?_eq_none (by have := h.1; omega)] at e
      cases e

theorem Src.setOther {p g j t : Nat} {s : Int} {w : World} {D : Array Value} {fr : Nat × Nat} {v : Value} (hs : Src p w) (hg : w.heap[g]? = some (.cells D t fr)) (hne : g ≠ p) (hD : Wav s D) : Src p (w.setCell ⟨g, j, none⟩ v) := by
  obtain ⟨len, cap, pos, ad, x, hx, a, b, c, d, hc⟩ := hs
  refine ⟨len, cap, pos, ad, x, by rw [heap_setCell_other _ _ _ _ hne.symm]; exact hx, a, b, c, d, fun h0 => ?_⟩
  obtain ⟨cb, off, e, ne, lt, hb⟩ := hc h0
  have hcg : cb ≠ g := by
    rintro rfl
    obtain ⟨y, _, _, hy⟩ := hb 0 h0
    rw [cell_of_row _ _ _ _ _ _ hg] at hy
    exact wav_no hD _ _ hy
  refine ⟨cb, off, e, ne, by rw [World.size_setCell]; exact lt, fun i hi => ?_⟩
  obtain ⟨y, y0, y1, hy⟩ := hb i hi
  refine ⟨y, y0, y1, ?_⟩
  unfold World.cell?
  rw [heap_setCell_other _ _ _ _ hcg]
  exact hy

theorem heap_setRow_other (w : World) (g k : Nat) (cs : Array Value) (h : k ≠ g) : (w.setRow g cs).heap[k]? = w.heap[k]? := by
  simp only [World.setRow, Array.getElem?_modify]
  rw [if_neg h.symm]
theorem Own.setRow {p : Nat} {a w : World} (h : Own p a w) (g : Nat) (cs : Array Value) (hg : a.heap.size ≤ g) : Own p a (w.setRow g cs) :=
  ⟨h.os, h.tape, h.output, by rw [size_setRow]; exact h.size, fun k hk hp => by
    rw [heap_setRow_other _ _ _ _ (by omega)]; exact h.block k hk hp⟩
theorem Src.setRow {p g t : Nat} {s : Int} {w : World} {D : Array Value} {fr : Nat × Nat} (hs : Src p w) (hg : w.heap[g]? = some (.cells D t fr)) (hne : g ≠ p) (hD : Wav s D) (cs : Array Value) : Src p (w.setRow g cs) := by
  obtain ⟨len, cap, pos, ad, x, hx, a, b, c, d, hc⟩ := hs
  refine ⟨len, cap, pos, ad, x, by rw [heap_setRow_other _ _ _ _ hne.symm]; exact hx, a, b, c, d, fun h0 => ?_⟩
  obtain ⟨cb, off, e, ne, lt, hb⟩ := hc h0
  have hcg : cb ≠ g := by
    rintro rfl
    obtain ⟨y, _, _, hy⟩ := hb 0 h0
    rw [cell_of_row _ _ _ _ _ _ hg] at hy
    exact wav_no hD _ _ hy
  refine ⟨cb, off, e, ne, by rw [size_setRow]; exact lt, fun i hi => ?_⟩
  obtain ⟨y, y0, y1, hy⟩ := hb i hi
  refine ⟨y, y0, y1, ?_⟩
  unfold World.cell?
  rw [heap_setRow_other _ _ _ _ hcg]
  exact hy

/-- where a wave lies while it is drawn -/
def Lies (p : Nat) (s : Int) (w : World) (g : Nat) (wr : World) : Prop :=
  ∃ D, wr.heap[g]? = some (.cells D 32 (0, 0)) ∧ Wav s D ∧ Src p wr ∧ Own p w wr

theorem Lies.own {p g : Nat} {s : Int} {w a b : World} (h : Lies p s w g a) (hne : g ≠ p) (hs : Src p b) (ho : Own p a b) : Lies p s w g b := by
  obtain ⟨D, hg, hd, s0, o0⟩ := h
  have hl : g < a.heap.size := by
    by_cases hl : g < a.heap.size
    · exact hl
    · rw [Array.getElem?_eq_none (by omega)] at hg; cases hg
  exact ⟨D, by rw [ho.block g hl hne]; exact hg, hd, hs, o0.trans ho⟩
theorem Lies.set {p g : Nat} {s : Int} {w a : World} (h : Lies p s w g a) (hne : g ≠ p) (hn : w.heap.size ≤ g) (k x y : Nat) : Lies p s w g (a.setCell ⟨g, 1 + k, none⟩ (.complex .f32 x y)) := by
  obtain ⟨D, hg, hd, s0, o0⟩ := h
  exact ⟨D.setIfInBounds (1 + k) (.complex .f32 x y), heap_setCell_same _ _ _ _ _ _ hg, wav_set hd k x y, s0.setOther hg hne hd, o0.setNew g _ _ hn⟩
theorem Lies.cell {p g : Nat} {s : Int} {w a : World} (h : Lies p s w g a) (k : Nat) (hk : k < 64) : ∃ x y, a.cell? ⟨g, 1 + k, none⟩ = some (.complex .f32 x y) := by
  obtain ⟨D, hg, hd, _⟩ := h
  obtain ⟨x, y, e⟩ := hd.2.2 k hk
  exact ⟨x, y, by rw [cell_of_row _ _ _ _ _ _ hg]; exact e⟩
theorem Lies.free {p g : Nat} {s : Int} {w a : World} (h : Lies p s w g a) (k : Nat) : a.frozen? ⟨g, 1 + k, none⟩ = false := by
  obtain ⟨D, hg, _⟩ := h
  exact frozen_of_row _ _ _ _ _ hg
end Go.Proofs.Ytnaabmepjjcpiaa
