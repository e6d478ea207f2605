/- Plain facts on equal numbers and on the cells of waves. Condition: none. The draws of a flat wave's arguments, of a side, of a simple number. Condition: a code that can be read; a source. Waves that were drawn: their cells, and a store into one. Condition: none. -/
import Derived.Test.YtdmeinaonliphabM22
import Derived.Test.YtdmeinaonliphabEqC
import Derived.Test.YtdmeinaonliphabNum
import Derived.Test.YtdmeinaonliphabM8
import Derived.Test.YtdmeinaonliphabPhase
import Derived.Test.YtdmeinaonliphabM21
namespace Go.Proofs.Ytdmeinaonliphab
open Go Go.RowKit

theorem order_symm (a b : Ieee.Datum) (h : a.order b = some .eq) : b.order a = some .eq := by
  cases a with
  | nan s t => simp [Ieee.Datum.order] at h
  | infinity s =>
    cases b with
    | nan s t => simp [Ieee.Datum.order] at h
    | infinity t => cases s <;> cases t <;> simp [Ieee.Datum.order] at h ⊢
    | number t n j => cases s <;> simp [Ieee.Datum.order] at h
  | number s m i =>
    cases b with
    | nan s t => simp [Ieee.Datum.order] at h
    | infinity t => cases t <;> simp [Ieee.Datum.order] at h
    | number t n j =>
      simp only [Ieee.Datum.order, Option.some.injEq] at h ⊢
      rw [Std.LawfulEqCmp.compare_eq_iff_eq] at h ⊢
      rw [Int.min_comm j i]
      exact h.symm
theorem feq_symm (x y : Nat) (h : Op.floatEq .f32 x y = true) : Op.floatEq .f32 y x = true := by
  unfold Op.floatEq at *
  have h' : FloatKind.f32.format.order x y = some .eq := by simpa using h
  have : FloatKind.f32.format.order y x = some .eq := order_symm _ _ h'
  rw [this]; rfl

theorem wav_at (s : Int) (D : Array Value) (hD : Wav s D) (k : Nat) (hk : k < 64) : D[1 + k]? = some (.complex .f32 (reAt D k) (imAt D k)) := by
  obtain ⟨x, y, h⟩ := hD.2.2 k hk
  obtain ⟨e1, e2⟩ := at_of D k x y h
  rw [e1, e2]; exact h
theorem place_of (s k : Nat) (hs : 0 < s) (hk : k < s * s) : ∃ y x, y < s ∧ x < s ∧ k = s * y + x :=
  ⟨k / s, k % s, Nat.div_lt_of_lt_mul hk, Nat.mod_lt _ hs, (Nat.div_add_mod k s).symm⟩

theorem wav_ext (s : Int) (A B : Array Value) (hA : Wav s A) (hB : Wav s B) (h : ∀ k, k < 64 → A[1 + k]? = B[1 + k]?) : A = B := by
  apply Array.ext_getElem?
  intro i
  cases i with
  | zero => rw [hA.2.1, hB.2.1]
  | succ i =>
    by_cases hi : i < 64
    · rw [Nat.add_comm]; exact h i hi
    · rw [Array.getElem?_eq_none (by rw [hA.1]; omega), Array.getElem?_eq_none (by rw [hB.1]; omega)]
end Go.Proofs.Ytdmeinaonliphab

namespace Go.Proofs.Ytdmeinaonliphab
open Go Go.RowKit

set_option maxRecDepth 100000 in
set_option maxHeartbeats 800000 in
theorem simple_any (p : Nat) (w : World) (hs : Src p w) : Calls Try.prog 74 #[.pointer (some ⟨p, 0, none⟩)] w (CplD p w) := by
  go_enter Try.func74, Try.ntmps74
  go_wp2_with fail
  refine (next_any p 6 w hs).mono ?_
  rintro e w1 ⟨r, rfl, r0, r1, s1, o1⟩
  have S := Lib.hid s1
  have O := Lib.hid o1
  clear s1 o1 hs
  by_cases h0 : r = 0
  · subst h0
    go_wp2_with fail
    go_ret
    exact ⟨_, _, rfl, S.out, O.out⟩
  by_cases h1 : r = 1
  · subst h1
    go_wp2_with fail
    go_ret
    exact ⟨_, _, rfl, S.out, O.out⟩
  by_cases h2 : r = 2
  · subst h2
    go_wp2_with fail
    refine (pick_lit p [1, -1] w1 S.out (by simp) (by simp)).mono ?_
    rintro e w2 ⟨n, hn, rfl, s2, o2⟩
    go_wp2_with fail
    go_ret
    exact ⟨_, _, rfl, s2, O.out.trans o2⟩
  by_cases h3 : r = 3
  · subst h3
    go_wp2_with fail
    refine (next_any p 64 w1 S.out).mono ?_
    rintro e w2 ⟨n, rfl, n0, n1, s2, o2⟩
    go_wp2_with fail
    refine (spec_phase n w2).mono ?_
    rintro e w3 ⟨rfl, rfl⟩
    go_wp2_with fail
    go_ret
    exact ⟨_, _, rfl, s2, O.out.trans o2⟩
  · go_wp2_with fail
    refine (next_any p 9 w1 S.out).mono ?_
    rintro e w2 ⟨n, rfl, n0, n1, s2, o2⟩
    have hw : IntKind.i64.wrap (n - 4) = n - 4 := IntWalk.i64_in _ (by omega)
    have S2 := Lib.hid s2
    have O2 := Lib.hid (O.out.trans o2)
    clear s2 o2 O S
    go_wp2_with fail
    (first | refine upon_gives (gives_arith _ _ (by decide) _ _ _ _ _) ?_ | refine upon_gives (gives_conv _ _ _ _ _) ?_ | refine upon_gives (gives_neg _ _ _ _) ?_)
    intro z wz hl
    replace S2 := Lib.hid (Like.src hl (S2).out)
    replace O2 := Lib.hid (Own.trans (O2).out (Like.own hl _))
    clear hl
    go_wp2_with fail
    (first | refine upon_gives (gives_arith _ _ (by decide) _ _ _ _ _) ?_ | refine upon_gives (gives_conv _ _ _ _ _) ?_ | refine upon_gives (gives_neg _ _ _ _) ?_)
    intro z wz hl
    replace S2 := Lib.hid (Like.src hl (S2).out)
    replace O2 := Lib.hid (Own.trans (O2).out (Like.own hl _))
    clear hl
    go_wp2_with fail
    refine (next_any p 9 _ S2.out).mono ?_
    rintro e w3 ⟨m, rfl, m0, m1, s3, o3⟩
    have hw : IntKind.i64.wrap (m - 4) = m - 4 := IntWalk.i64_in _ (by omega)
    have S3 := Lib.hid s3
    have O3 := Lib.hid (O2.out.trans o3)
    clear s3 o3 O2 S2
    go_wp2_with fail
    (first | refine upon_gives (gives_arith _ _ (by decide) _ _ _ _ _) ?_ | refine upon_gives (gives_conv _ _ _ _ _) ?_ | refine upon_gives (gives_neg _ _ _ _) ?_)
    intro z wz hl
    replace S3 := Lib.hid (Like.src hl (S3).out)
    replace O3 := Lib.hid (Own.trans (O3).out (Like.own hl _))
    clear hl
    go_wp2_with fail
    (first | refine upon_gives (gives_arith _ _ (by decide) _ _ _ _ _) ?_ | refine upon_gives (gives_conv _ _ _ _ _) ?_ | refine upon_gives (gives_neg _ _ _ _) ?_)
    intro z wz hl
    replace S3 := Lib.hid (Like.src hl (S3).out)
    replace O3 := Lib.hid (Own.trans (O3).out (Like.own hl _))
    clear hl
    go_wp2_with fail
    go_ret
    exact ⟨_, _, rfl, S3.out, O3.out⟩
end Go.Proofs.Ytdmeinaonliphab

namespace Go.Proofs.Ytdmeinaonliphab
open Go Go.RowKit

/-- a wave was drawn -/
def WavD (p : Nat) (s : Int) (w : World) (e : Ending) (w' : World) : Prop := ∃ D, e = .returned (.agg D) ∧ Wav s D ∧ Src p w' ∧ Own p w w'

theorem Src.setOther {p g j t : Nat} {s : Int} {w : World} {D : Array Value} {fr : Nat × Nat} {v : Value} (hs : Src p w) (hg : w.heap[g]? = some (.cells D t fr)) (hne : g ≠ p) (hD : Wav s D) : Src p (w.setCell ⟨g, j, none⟩ v) := by
  obtain ⟨len, cap, pos, ad, x, hx, a, b, c, d, hc⟩ := hs
  refine ⟨len, cap, pos, ad, x, by rw [heap_setCell_other _ _ _ _ hne.symm]; exact hx, a, b, c, d, fun h0 => ?_⟩
  obtain ⟨cb, off, e, ne, lt, hb⟩ := hc h0
  have hcg : cb ≠ g := by
    rintro rfl
    obtain ⟨y, _, _, hy⟩ := hb 0 h0
    rw [cell_of_row _ _ _ _ _ _ hg] at hy
    exact wav_no hD _ _ hy
  refine ⟨cb, off, e, ne, by rw [World.size_setCell]; exact lt, fun i hi => ?_⟩
  obtain ⟨y, y0, y1, hy⟩ := hb i hi
  refine ⟨y, y0, y1, ?_⟩
  unfold World.cell?
  rw [heap_setCell_other _ _ _ _ hcg]
  exact hy

theorem Own.setRow {p : Nat} {a w : World} (h : Own p a w) (g : Nat) (cs : Array Value) (hg : a.heap.size ≤ g) : Own p a (w.setRow g cs) :=
  ⟨h.os, h.tape, h.output, by rw [size_setRow]; exact h.size, fun k hk hp => by
    rw [heap_setRow_other _ _ _ _ (by omega)]; exact h.block k hk hp⟩
theorem Src.setRow {p g t : Nat} {s : Int} {w : World} {D : Array Value} {fr : Nat × Nat} (hs : Src p w) (hg : w.heap[g]? = some (.cells D t fr)) (hne : g ≠ p) (hD : Wav s D) (cs : Array Value) : Src p (w.setRow g cs) := by
  obtain ⟨len, cap, pos, ad, x, hx, a, b, c, d, hc⟩ := hs
  refine ⟨len, cap, pos, ad, x, by rw [heap_setRow_other _ _ _ _ hne.symm]; exact hx, a, b, c, d, fun h0 => ?_⟩
  obtain ⟨cb, off, e, ne, lt, hb⟩ := hc h0
  have hcg : cb ≠ g := by
    rintro rfl
    obtain ⟨y, _, _, hy⟩ := hb 0 h0
    rw [cell_of_row _ _ _ _ _ _ hg] at hy
    exact wav_no hD _ _ hy
  refine ⟨cb, off, e, ne, by rw [size_setRow]; exact lt, fun i hi => ?_⟩
  obtain ⟨y, y0, y1, hy⟩ := hb i hi
  refine ⟨y, y0, y1, ?_⟩
  unfold World.cell?
  rw [heap_setRow_other _ _ _ _ hcg]
  exact hy

/-- where a wave lies while it is drawn -/
def Lies (p : Nat) (s : Int) (w : World) (g : Nat) (wr : World) : Prop :=
  ∃ D, wr.heap[g]? = some (.cells D 27 (0, 0)) ∧ Wav s D ∧ Src p wr ∧ Own p w wr

theorem Lies.own {p g : Nat} {s : Int} {w a b : World} (h : Lies p s w g a) (hne : g ≠ p) (hs : Src p b) (ho : Own p a b) : Lies p s w g b := by
  obtain ⟨D, hg, hd, s0, o0⟩ := h
  have hl : g < a.heap.size := by
    by_cases hl : g < a.heap.size
    · exact hl
    · rw [Array.getElem?_eq_none (by omega)] at hg; cases hg
  exact ⟨D, by rw [ho.block g hl hne]; exact hg, hd, hs, o0.trans ho⟩
theorem Lies.set {p g : Nat} {s : Int} {w a : World} (h : Lies p s w g a) (hne : g ≠ p) (hn : w.heap.size ≤ g) (k x y : Nat) : Lies p s w g (a.setCell ⟨g, 1 + k, none⟩ (.complex .f32 x y)) := by
  obtain ⟨D, hg, hd, s0, o0⟩ := h
  exact ⟨D.setIfInBounds (1 + k) (.complex .f32 x y), heap_setCell_same _ _ _ _ _ _ hg, wav_set hd k x y, s0.setOther hg hne hd, o0.setNew g _ _ hn⟩
theorem Lies.cell {p g : Nat} {s : Int} {w a : World} (h : Lies p s w g a) (k : Nat) (hk : k < 64) : ∃ x y, a.cell? ⟨g, 1 + k, none⟩ = some (.complex .f32 x y) := by
  obtain ⟨D, hg, hd, _⟩ := h
  obtain ⟨x, y, e⟩ := hd.2.2 k hk
  exact ⟨x, y, by rw [cell_of_row _ _ _ _ _ _ hg]; exact e⟩
theorem Lies.free {p g : Nat} {s : Int} {w a : World} (h : Lies p s w g a) (k : Nat) : a.frozen? ⟨g, 1 + k, none⟩ = false := by
  obtain ⟨D, hg, _⟩ := h
  exact frozen_of_row _ _ _ _ _ hg
end Go.Proofs.Ytdmeinaonliphab
