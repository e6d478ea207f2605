/- Waves that lie in blocks of a call's own. Condition: none. The model's way to ask for a mask; which of its cells are 0. Condition: 64 complex numbers. -/
import Derived.Test.YtjmfffgddmnkmacM24
import Derived.Test.YtjmfffgddmnkmacMk
import Derived.Test.YtjmfffgddmnkmacM30
namespace Go.Proofs.Ytjmfffgddmnkmac
open Go Go.RowKit

/-- the waves that lie in a world, all that was before as it was -/
def Lay (L : List (Nat × Array Value)) (w wr : World) : Prop := (∀ (i b : Nat) (D : Array Value), L[i]? = some (b, D) → wr.heap[b]? = some (.cells D 33 (0, 0))) ∧ Below w.heap.size w wr
theorem Lay.nil (w : World) : Lay [] w w := ⟨fun i b D h => by simp at h, Below.refl _ _⟩
theorem Lay.at {L : List (Nat × Array Value)} {w a : World} (h : Lay L w a) (i : Nat) {b : Nat} {D : Array Value} (hi : L[i]? = some (b, D)) : a.heap[b]? = some (.cells D 33 (0, 0)) := h.1 i b D hi
theorem Lay.below {L : List (Nat × Array Value)} {w a c : World} (h : Lay L w a) (b : Below a.heap.size a c) : Lay L w c :=
  ⟨fun i p D hi => by rw [b.block _ (Array.getElem?_eq_some_iff.1 (h.1 i p D hi)).1]; exact h.1 i p D hi, h.2.trans (b.mono h.2.size)⟩
theorem Lay.drewN {L : List (Nat × Array Value)} {w a : World} (h : Lay L w a) (n : Nat) : Lay L w (a.drewN n) := ⟨h.1, below_drewN h.2 n⟩
theorem Lay.push {L : List (Nat × Array Value)} {w a : World} (h : Lay L w a) (D : Array Value) : Lay ((a.heap.size, D) :: L) w (a.alloc (.cells D 33)) := by
  refine ⟨fun i p E hi => ?_, h.2.alloc h.2.size _⟩
  cases i with
  | zero =>
    simp only [List.getElem?_cons_zero, Option.some.injEq, Prod.mk.injEq] at hi
    obtain ⟨rfl, rfl⟩ := hi
    exact h1_0 _ _
  | succ i =>
    rw [List.getElem?_cons_succ] at hi
    have := h.1 i p E hi
    rw [heap_alloc_old _ _ (Array.getElem?_eq_some_iff.1 this).1]
    exact this
theorem Lay.alloc {L : List (Nat × Array Value)} {w a : World} (h : Lay L w a) (o : Obj) : Lay L w (a.alloc o) :=
  ⟨fun i p E hi => by rw [heap_alloc_old _ _ (Array.getElem?_eq_some_iff.1 (h.1 i p E hi)).1]; exact h.1 i p E hi, h.2.alloc h.2.size _⟩
/-- a wave less -/
theorem Lay.pop {p : Nat × Array Value} {L : List (Nat × Array Value)} {w a : World} (h : Lay (p :: L) w a) : Lay L w a := ⟨fun i b D hi => h.1 (i + 1) b D (by rw [List.getElem?_cons_succ]; exact hi), h.2⟩
theorem Lay.setCell {b : Nat} {C : Array Value} {L : List (Nat × Array Value)} {w a : World} (h : Lay ((b, C) :: L) w a) (hb : w.heap.size ≤ b) (hL : ∀ p ∈ L, p.1 ≠ b) (j : Nat) (v : Value) : Lay ((b, C.setIfInBounds j v) :: L) w (a.setCell ⟨b, j, none⟩ v) := by
  refine ⟨fun i p E hi => ?_, h.2.setCell (p := ⟨b, j, none⟩) hb v⟩
  cases i with
  | zero =>
    simp only [List.getElem?_cons_zero, Option.some.injEq, Prod.mk.injEq] at hi
    obtain ⟨rfl, rfl⟩ := hi
    exact heap_setCell_same _ _ _ _ _ _ (h.1 0 b C rfl)
  | succ i =>
    rw [List.getElem?_cons_succ] at hi
    have hne := hL _ (List.mem_of_getElem? hi)
    rw [Below.heap_setCell a ⟨b, j, none⟩ v p (fun e => hne e)]
    exact h.1 (i + 1) p E (by rw [List.getElem?_cons_succ]; exact hi)
theorem Lay.setRow {b : Nat} {C : Array Value} {L : List (Nat × Array Value)} {w a : World} (h : Lay ((b, C) :: L) w a) (hb : w.heap.size ≤ b) (hL : ∀ p ∈ L, p.1 ≠ b) (F : Array Value) : Lay ((b, F) :: L) w (a.setRow b F) := by
  refine ⟨fun i p E hi => ?_, below_setRow h.2 hb _⟩
  cases i with
  | zero =>
    simp only [List.getElem?_cons_zero, Option.some.injEq, Prod.mk.injEq] at hi
    obtain ⟨rfl, rfl⟩ := hi
    exact setRow_heap _ _ _ _ _ _ (h.1 0 b C rfl)
  | succ i =>
    rw [List.getElem?_cons_succ] at hi
    have hne := hL _ (List.mem_of_getElem? hi)
    rw [heap_setRow_other _ _ _ _ hne]
    exact h.1 (i + 1) p E (by rw [List.getElem?_cons_succ]; exact hi)
theorem lay1 (w : World) (D : Array Value) : Lay [(w.heap.size, D)] w (w.alloc (.cells D 33)) := (Lay.nil w).push D
theorem lay2 (w : World) (D E : Array Value) : Lay [(w.heap.size + 1, E), (w.heap.size, D)] w ((w.alloc (.cells D 33)).alloc (.cells E 33)) := by
  have h := (lay1 w D).push E
  rwa [size_al] at h
theorem lay3 (w : World) (D E F : Array Value) : Lay [(w.heap.size + 1 + 1, F), (w.heap.size + 1, E), (w.heap.size, D)] w (((w.alloc (.cells D 33)).alloc (.cells E 33)).alloc (.cells F 33)) := by
  have h := (lay2 w D E).push F
  rwa [size_al, size_al] at h
/-- in another order -/
theorem Lay.swap {p q : Nat × Array Value} {L : List (Nat × Array Value)} {w a : World} (h : Lay (p :: q :: L) w a) : Lay (q :: p :: L) w a :=
  ⟨fun i b D hi => by
    match i with
    | 0 => exact h.1 1 b D hi
    | 1 => exact h.1 0 b D hi
    | i + 2 => exact h.1 (i + 2) b D hi, h.2⟩
theorem Lay.roll {p q r : Nat × Array Value} {L : List (Nat × Array Value)} {w a : World} (h : Lay (p :: q :: r :: L) w a) : Lay (r :: p :: q :: L) w a :=
  ⟨fun i b D hi => by
    match i with
    | 0 => exact h.1 2 b D hi
    | 1 => exact h.1 0 b D hi
    | 2 => exact h.1 1 b D hi
    | i + 3 => exact h.1 (i + 3) b D hi, h.2⟩
theorem Lay.cell {L : List (Nat × Array Value)} {w a : World} (h : Lay L w a) (i : Nat) {b : Nat} {D : Array Value} (hi : L[i]? = some (b, D)) (j : Nat) : a.cell? ⟨b, j, none⟩ = D[j]? := cell_of_row _ _ _ _ _ _ (h.1 i b D hi)
theorem Lay.free {L : List (Nat × Array Value)} {w a : World} (h : Lay L w a) (i : Nat) {b : Nat} {D : Array Value} (hi : L[i]? = some (b, D)) (j : Nat) : a.frozen? ⟨b, j, none⟩ = false := frozen_of_row _ _ _ _ _ (h.1 i b D hi)
end Go.Proofs.Ytjmfffgddmnkmac

namespace Go.Proofs.Ytjmfffgddmnkmac
open Go Go.RowKit

theorem mks_at (D : Array Value) (m : Nat) (h : mks D m = true) : ∀ k, k < m → mk (reAt D k) (imAt D k) = true := by
  induction m with
  | zero => intro k hk; omega
  | succ m ih =>
    intro k hk
    rw [mks, Bool.and_eq_true] at h
    by_cases e : k = m
    · subst e; exact h.2
    · exact ih h.1 k (by omega)
theorem side_sq (s : Nat) (hs : side s = true) : ∃ N : Nat, IntKind.i64.wrap ((s : Int) * (s : Int)) = (N : Int) ∧ N ≤ 64 ∧ s * s = N := by
  rcases side_nat s hs with rfl | rfl | rfl | rfl
  · exact ⟨1, rfl, by omega, rfl⟩
  · exact ⟨4, rfl, by omega, rfl⟩
  · exact ⟨16, rfl, by omega, rfl⟩
  · exact ⟨64, rfl, by omega, rfl⟩

set_option maxRecDepth 100000 in
set_option maxHeartbeats 1000000 in
theorem specMsk_any (s : Int) (D : Array Value) (hD : Wav s D) (w : World) : Calls Try.prog 56 #[.agg D] w fun e w' => e = .returned (.bool (isMsk s D)) ∧ Below w.heap.size w w' := by
  have HDI : Hid ((Try.prog.info? 33).map (·.size) = some D.size) := Lib.hid (by rw [hD.1]; exact (zero_of_info info37').2)
  have HIS := Lib.hid (specIs_any s D hD)
  have HX : Hid (∀ k : Nat, k < 64 → ∃ x y, (w.alloc (.cells D 33)).cell? ⟨w.heap.size, 1 + k, none⟩ = some (.complex .f32 x y) ∧ reAt D k = x ∧ imAt D k = y) := Lib.hid fun k hk => by
    obtain ⟨x, y, h⟩ := hD.2.2 k hk
    obtain ⟨e1, e2⟩ := at_of D k x y h
    exact ⟨x, y, by rw [cell_of_row _ _ _ _ _ _ (h1_0 _ _)]; exact h, e1, e2⟩
  have HM : Hid (∀ k, k ≤ 64 → mks D k = false → isMsk s D = false) := Lib.hid fun k hk h => by unfold isMsk; rw [mks_false D k 64 h hk]; rfl
  have HE : Hid (mks D 64 = true → isMsk s D = isWav s D) := Lib.hid fun h => by unfold isMsk; rw [h]; rfl
  clear hD
  generalize isMsk s D = M at *
  go_enter Try.func56, Try.ntmps56
  go_wp2_with fail
  have G0 := Lib.hid (lay1 w D)
  generalize w.alloc (.cells D 33) = v at *
  go_loopw [3] (fun i wr => ∃ k : Nat, k ≤ 64 ∧ i = .int .i64 k ∧ mks D k = true ∧ wr = v) (fun i _ => 64 - (intOf i).toNat)
  case atStart => exact ⟨0, by omega, rfl, rfl, rfl⟩
  case round =>
    obtain ⟨k, hk, rfl, hm, rfl⟩ := hrel
    by_cases hlt : k < 64
    · have hdk : decide ((k : Int) < 64) = true := by simp; omega
      obtain ⟨x, y, hX, ex, ey⟩ := HX.out k hlt
      have hs : mks D (k + 1) = mk x y := by rw [mks, hm, ex, ey]; rfl
      cases hn : nul x y
      · have hn' : (FloatKind.f32.format.order x 0 == some .eq && FloatKind.f32.format.order y 0 == some .eq) = false := hn
        cases ho : one x y
        · have ho' : (FloatKind.f32.format.order x 1065353216 == some .eq && FloatKind.f32.format.order y 0 == some .eq) = false := ho
          have hf := HM.out (k + 1) (by omega) (by rw [hs]; unfold mk; rw [hn, ho]; rfl)
          go_wp2
          go_ret
          exact ⟨by rw [hf]; rfl, G0.out.2⟩
        · have ho' : (FloatKind.f32.format.order x 1065353216 == some .eq && FloatKind.f32.format.order y 0 == some .eq) = true := ho
          go_wp2
          exact ⟨⟨k + 1, by omega, by go_num, by rw [hs]; unfold mk; rw [hn, ho]; rfl, trivial⟩, by simp [intOf]; omega⟩
      · have hn' : (FloatKind.f32.format.order x 0 == some .eq && FloatKind.f32.format.order y 0 == some .eq) = true := hn
        go_wp2
        exact ⟨⟨k + 1, by omega, by go_num, by rw [hs]; unfold mk; rw [hn]; rfl, trivial⟩, by simp [intOf]; omega⟩
    · obtain rfl : k = 64 := by omega
      have hq := HE.out hm
      go_wp2_with (first | (refine wpList_load_row rfl 33 (.tmp 1) rfl w.heap.size rfl 33 D (0, 0) _ (G0.out.at 0 rfl) Try.underlying33 rfl HDI.out ?_) | (go_at_call 75; fail))
      refine (HIS.out _).mono ?_
      rintro e w1 ⟨rfl, b1⟩
      have B1 := Lib.hid (G0.out.below b1).2
      clear b1
      go_wp2
      go_ret
      exact ⟨by rw [hq]; rfl, B1.out⟩

set_option maxRecDepth 100000 in
set_option maxHeartbeats 1000000 in

theorem nul_one (x y : Nat) (h : mk x y = true) : nul x y = !one x y := by
  unfold mk at h
  cases hn : nul x y
  · rw [hn, Bool.false_or] at h; rw [h]; rfl
  · cases ho : one x y
    · rfl
    · exfalso
      unfold nul at hn
      unfold one at ho
      rw [Bool.and_eq_true] at hn ho
      obtain ⟨s, h1⟩ := read_zero x hn.1
      have h2 := read_one x ho.1
      rw [h1] at h2
      cases h2
theorem mk_openS (s : Int) (D : Array Value) (h : isMsk s D = true) (k : Nat) (hk : k < 64) : nul (reAt D k) (imAt D k) = !open_ D k := by
  unfold isMsk at h
  rw [Bool.and_eq_true] at h
  exact nul_one _ _ (mks_at D 64 h.1 k hk)
end Go.Proofs.Ytjmfffgddmnkmac
