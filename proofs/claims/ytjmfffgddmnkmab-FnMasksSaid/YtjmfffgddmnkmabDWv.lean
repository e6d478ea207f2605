/- Waves that were drawn: their cells, and a store into one. Condition: none. -/
import Derived.Test.YtjmfffgddmnkmabM40
import Derived.Test.YtjmfffgddmnkmabM14
namespace Go.Proofs.Ytjmfffgddmnkmab
open Go Go.RowKit

/-- a wave was drawn -/
def WavD (p : Nat) (s : Int) (w : World) (e : Ending) (w' : World) : Prop := ∃ D, e = .returned (.agg D) ∧ Wav s D ∧ Src p w' ∧ Own p w w'

theorem Src.setOther {p g j t : Nat} {s : Int} {w : World} {D : Array Value} {fr : Nat × Nat} {v : Value} (hs : Src p w) (hg : w.heap[g]? = some (.cells D t fr)) (hne : g ≠ p) (hD : Wav s D) : Src p (w.setCell ⟨g, j, none⟩ v) := by
  obtain ⟨len, cap, pos, ad, x, hx, a, b, c, d, hc⟩ := hs
  refine ⟨len, cap, pos, ad, x, by rw [heap_setCell_other _ _ _ _ hne.symm]; exact hx, a, b, c, d, fun h0 => ?_⟩
  obtain ⟨cb, off, e, ne, lt, hb⟩ := hc h0
  have hcg : cb ≠ g := by
    rintro rfl
    obtain ⟨y, _, _, hy⟩ := hb 0 h0
    rw [cell_of_row _ _ _ _ _ _ hg] at hy
    exact wav_no hD _ _ hy
  refine ⟨cb, off, e, ne, by rw [World.size_setCell]; exact lt, fun i hi => ?_⟩
  obtain ⟨y, y0, y1, hy⟩ := hb i hi
  refine ⟨y, y0, y1, ?_⟩
  unfold World.cell?
  rw [heap_setCell_other _ _ _ _ hcg]
  exact hy

theorem Own.setRow {p : Nat} {a w : World} (h : Own p a w) (g : Nat) (cs : Array Value) (hg : a.heap.size ≤ g) : Own p a (w.setRow g cs) :=
  ⟨h.os, h.tape, h.output, by rw [size_setRow]; exact h.size, fun k hk hp => by
    rw [heap_setRow_other _ _ _ _ (by omega)]; exact h.block k hk hp⟩
theorem Src.setRow {p g t : Nat} {s : Int} {w : World} {D : Array Value} {fr : Nat × Nat} (hs : Src p w) (hg : w.heap[g]? = some (.cells D t fr)) (hne : g ≠ p) (hD : Wav s D) (cs : Array Value) : Src p (w.setRow g cs) := by
  obtain ⟨len, cap, pos, ad, x, hx, a, b, c, d, hc⟩ := hs
  refine ⟨len, cap, pos, ad, x, by rw [heap_setRow_other _ _ _ _ hne.symm]; exact hx, a, b, c, d, fun h0 => ?_⟩
  obtain ⟨cb, off, e, ne, lt, hb⟩ := hc h0
  have hcg : cb ≠ g := by
    rintro rfl
    obtain ⟨y, _, _, hy⟩ := hb 0 h0
    rw [cell_of_row _ _ _ _ _ _ hg] at hy
    exact wav_no hD _ _ hy
  refine ⟨cb, off, e, ne, by rw [size_setRow]; exact lt, fun i hi => ?_⟩
  obtain ⟨y, y0, y1, hy⟩ := hb i hi
  refine ⟨y, y0, y1, ?_⟩
  unfold World.cell?
  rw [heap_setRow_other _ _ _ _ hcg]
  exact hy

/-- where a wave lies while it is drawn -/
def Lies (p : Nat) (s : Int) (w : World) (g : Nat) (wr : World) : Prop :=
  ∃ D, wr.heap[g]? = some (.cells D 30 (0, 0)) ∧ Wav s D ∧ Src p wr ∧ Own p w wr

theorem Lies.own {p g : Nat} {s : Int} {w a b : World} (h : Lies p s w g a) (hne : g ≠ p) (hs : Src p b) (ho : Own p a b) : Lies p s w g b := by
  obtain ⟨D, hg, hd, s0, o0⟩ := h
  have hl : g < a.heap.size := by
    by_cases hl : g < a.heap.size
    · exact hl
    · rw [Array.getElem?_eq_none (by omega)] at hg; cases hg
  exact ⟨D, by rw [ho.block g hl hne]; exact hg, hd, hs, o0.trans ho⟩
theorem Lies.set {p g : Nat} {s : Int} {w a : World} (h : Lies p s w g a) (hne : g ≠ p) (hn : w.heap.size ≤ g) (k x y : Nat) : Lies p s w g (a.setCell ⟨g, 1 + k, none⟩ (.complex .f32 x y)) := by
  obtain ⟨D, hg, hd, s0, o0⟩ := h
  exact ⟨D.setIfInBounds (1 + k) (.complex .f32 x y), heap_setCell_same _ _ _ _ _ _ hg, wav_set hd k x y, s0.setOther hg hne hd, o0.setNew g _ _ hn⟩
theorem Lies.cell {p g : Nat} {s : Int} {w a : World} (h : Lies p s w g a) (k : Nat) (hk : k < 64) : ∃ x y, a.cell? ⟨g, 1 + k, none⟩ = some (.complex .f32 x y) := by
  obtain ⟨D, hg, hd, _⟩ := h
  obtain ⟨x, y, e⟩ := hd.2.2 k hk
  exact ⟨x, y, by rw [cell_of_row _ _ _ _ _ _ hg]; exact e⟩
theorem Lies.free {p g : Nat} {s : Int} {w a : World} (h : Lies p s w g a) (k : Nat) : a.frozen? ⟨g, 1 + k, none⟩ = false := by
  obtain ⟨D, hg, _⟩ := h
  exact frozen_of_row _ _ _ _ _ hg
end Go.Proofs.Ytjmfffgddmnkmab
