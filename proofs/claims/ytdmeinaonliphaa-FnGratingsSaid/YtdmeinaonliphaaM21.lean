/- The model's cell of a wave. Condition: 64 complex numbers. The draws of a flat wave's arguments, of a side, of a simple number. Condition: a code that can be read; a source. Waves that were drawn: their cells, and a store into one. Condition: none. -/
import Derived.Test.YtdmeinaonliphaaM20
import Derived.Test.YtdmeinaonliphaaM17
import Derived.Test.YtdmeinaonliphaaM3
import Derived.Test.YtdmeinaonliphaaM2
import Derived.Test.YtdmeinaonliphaaM4
import Derived.Test.YtdmeinaonliphaaM16
import Derived.Test.YtdmeinaonliphaaM19
namespace Go.Proofs.Ytdmeinaonliphaa
open Go Go.RowKit

/-- the answer that is asked for a cell -/
def cellAns (s : Int) (D : Array Value) (y x : Int) : Value :=
  if isWav s D then
    if inside y 0 (s - 1) && inside x 0 (s - 1) then .tuple #[.complex .f32 (reAt D (s * y + x).toNat) (imAt D (s * y + x).toNat), .int .i64 0]
    else .tuple #[.complex .f32 0 0, .int .i64 2]
  else .tuple #[.complex .f32 0 0, .int .i64 1]

set_option maxRecDepth 100000 in
set_option maxHeartbeats 800000 in
theorem specCell_no (s : Int) (D : Array Value) (hD : Wav s D) (hw : isWav s D = false) (y x : Int) (w : World) :
    Calls Try.prog 30 #[.agg D, .int .i64 y, .int .i64 x] w fun e w' => e = .returned (.tuple #[.complex .f32 0 0, .int .i64 1]) ∧ Below w.heap.size w w' := by
  have h0 := hD.2.1
  have HDI : Hid ((Try.prog.info? 32).map (·.size) = some D.size) := Lib.hid (by rw [hD.1]; exact (zero_of_info info37').2)
  have HIS := Lib.hid (specIs_any s D hD)
  rw [hw] at HIS
  clear hD
  go_enter Try.func30, Try.ntmps30
  go_wp2_with (first | (refine wpList_load_row rfl 32 (.tmp 3) rfl w.heap.size rfl 32 D (0, 0) _ (h1_0 _ _) Try.underlying32 rfl HDI.out ?_) | (go_at_call 85; fail))
  refine (HIS.out _).mono ?_
  rintro e w1 ⟨rfl, b1⟩
  have g1 : w1.heap[w.heap.size]? = some (.cells D 32 (0, 0)) := by rw [b1.block _ (by rw [size_al]; omega)]; exact h1_0 _ _
  have B1 := Lib.hid (((Below.refl w.heap.size w).alloc (Nat.le_refl _) (.cells D 32)).trans (b1.mono (by rw [size_al]; omega)))
  have c0 : w1.cell? ⟨w.heap.size, 0, none⟩ = some (.int .i64 s) := by rw [cell_of_row _ _ _ _ _ _ g1]; exact h0
  have G1 := Lib.hid g1
  clear b1 g1
  go_wp2_with fail
  go_ret2
  exact ⟨rfl, B1.out⟩

set_option maxRecDepth 100000 in
set_option maxHeartbeats 800000 in
theorem specCell_y (s : Int) (D : Array Value) (hD : Wav s D) (hw : isWav s D = true) (hw1 : IntKind.i64.wrap (s - 1) = s - 1) (y x : Int) (hy : inside y 0 (s - 1) = false) (w : World) :
    Calls Try.prog 30 #[.agg D, .int .i64 y, .int .i64 x] w fun e w' => e = .returned (.tuple #[.complex .f32 0 0, .int .i64 2]) ∧ Below w.heap.size w w' := by
  have HY := Lib.hid (fun w => l01In_gen y 0 (s - 1) w)
  rw [hy] at HY
  clear hy
  have h0 := hD.2.1
  have HDI : Hid ((Try.prog.info? 32).map (·.size) = some D.size) := Lib.hid (by rw [hD.1]; exact (zero_of_info info37').2)
  have HIS := Lib.hid (specIs_any s D hD)
  rw [hw] at HIS
  clear hD
  go_enter Try.func30, Try.ntmps30
  go_wp2_with (first | (refine wpList_load_row rfl 32 (.tmp 3) rfl w.heap.size rfl 32 D (0, 0) _ (h1_0 _ _) Try.underlying32 rfl HDI.out ?_) | (go_at_call 85; fail))
  refine (HIS.out _).mono ?_
  rintro e w1 ⟨rfl, b1⟩
  have g1 : w1.heap[w.heap.size]? = some (.cells D 32 (0, 0)) := by rw [b1.block _ (by rw [size_al]; omega)]; exact h1_0 _ _
  have B1 := Lib.hid (((Below.refl w.heap.size w).alloc (Nat.le_refl _) (.cells D 32)).trans (b1.mono (by rw [size_al]; omega)))
  have c0 : w1.cell? ⟨w.heap.size, 0, none⟩ = some (.int .i64 s) := by rw [cell_of_row _ _ _ _ _ _ g1]; exact h0
  have G1 := Lib.hid g1
  clear b1 g1
  go_wp2_with (go_at_call 75; refine (HY.out _).mono ?_; rintro e w' ⟨rfl, rfl⟩)
  go_ret2
  exact ⟨rfl, B1.out⟩

set_option maxRecDepth 100000 in
set_option maxHeartbeats 800000 in
theorem specCell_x (s : Int) (D : Array Value) (hD : Wav s D) (hw : isWav s D = true) (hw1 : IntKind.i64.wrap (s - 1) = s - 1) (y x : Int) (hy : inside y 0 (s - 1) = true) (hx : inside x 0 (s - 1) = false) (w : World) :
    Calls Try.prog 30 #[.agg D, .int .i64 y, .int .i64 x] w fun e w' => e = .returned (.tuple #[.complex .f32 0 0, .int .i64 2]) ∧ Below w.heap.size w w' := by
  have HY := Lib.hid (fun w => l01In_gen y 0 (s - 1) w)
  have HX := Lib.hid (fun w => l01In_gen x 0 (s - 1) w)
  rw [hy] at HY
  rw [hx] at HX
  clear hy hx
  have h0 := hD.2.1
  have HDI : Hid ((Try.prog.info? 32).map (·.size) = some D.size) := Lib.hid (by rw [hD.1]; exact (zero_of_info info37').2)
  have HIS := Lib.hid (specIs_any s D hD)
  rw [hw] at HIS
  clear hD
  go_enter Try.func30, Try.ntmps30
  go_wp2_with (first | (refine wpList_load_row rfl 32 (.tmp 3) rfl w.heap.size rfl 32 D (0, 0) _ (h1_0 _ _) Try.underlying32 rfl HDI.out ?_) | (go_at_call 85; fail))
  refine (HIS.out _).mono ?_
  rintro e w1 ⟨rfl, b1⟩
  have g1 : w1.heap[w.heap.size]? = some (.cells D 32 (0, 0)) := by rw [b1.block _ (by rw [size_al]; omega)]; exact h1_0 _ _
  have B1 := Lib.hid (((Below.refl w.heap.size w).alloc (Nat.le_refl _) (.cells D 32)).trans (b1.mono (by rw [size_al]; omega)))
  have c0 : w1.cell? ⟨w.heap.size, 0, none⟩ = some (.int .i64 s) := by rw [cell_of_row _ _ _ _ _ _ g1]; exact h0
  have G1 := Lib.hid g1
  clear b1 g1
  go_wp2_with fail
  refine (HY.out _).mono ?_
  rintro e w' ⟨rfl, rfl⟩
  go_wp2_with fail
  refine (HX.out _).mono ?_
  rintro e w' ⟨rfl, rfl⟩
  go_wp2_with fail
  go_ret2
  exact ⟨rfl, B1.out⟩

set_option maxRecDepth 100000 in
set_option maxHeartbeats 800000 in
theorem specCell_yes (s : Int) (D : Array Value) (hD : Wav s D) (hw : isWav s D = true) (hw1 : IntKind.i64.wrap (s - 1) = s - 1) (y x : Int) (hy : inside y 0 (s - 1) = true) (hx : inside x 0 (s - 1) = true)
    (k a b : Nat) (hk : k < 64) (hwm : IntKind.i64.wrap (s * y) = s * y) (hwa : IntKind.i64.wrap (s * y + x) = (k : Int)) (hab : D[1 + k]? = some (.complex .f32 a b)) (w : World) :
    Calls Try.prog 30 #[.agg D, .int .i64 y, .int .i64 x] w fun e w' => e = .returned (.tuple #[.complex .f32 a b, .int .i64 0]) ∧ Below w.heap.size w w' := by
  have HY := Lib.hid (fun w => l01In_gen y 0 (s - 1) w)
  have HX := Lib.hid (fun w => l01In_gen x 0 (s - 1) w)
  rw [hy] at HY
  rw [hx] at HX
  clear hy hx
  have h0 := hD.2.1
  have HDI : Hid ((Try.prog.info? 32).map (·.size) = some D.size) := Lib.hid (by rw [hD.1]; exact (zero_of_info info37').2)
  have HIS := Lib.hid (specIs_any s D hD)
  rw [hw] at HIS
  clear hD
  go_enter Try.func30, Try.ntmps30
  go_wp2_with (first | (refine wpList_load_row rfl 32 (.tmp 3) rfl w.heap.size rfl 32 D (0, 0) _ (h1_0 _ _) Try.underlying32 rfl HDI.out ?_) | (go_at_call 85; fail))
  refine (HIS.out _).mono ?_
  rintro e w1 ⟨rfl, b1⟩
  have g1 : w1.heap[w.heap.size]? = some (.cells D 32 (0, 0)) := by rw [b1.block _ (by rw [size_al]; omega)]; exact h1_0 _ _
  have B1 := Lib.hid (((Below.refl w.heap.size w).alloc (Nat.le_refl _) (.cells D 32)).trans (b1.mono (by rw [size_al]; omega)))
  have c0 : w1.cell? ⟨w.heap.size, 0, none⟩ = some (.int .i64 s) := by rw [cell_of_row _ _ _ _ _ _ g1]; exact h0
  have G1 := Lib.hid g1
  clear b1 g1
  have hcc : w1.cell? ⟨w.heap.size, 1 + k, none⟩ = some (.complex .f32 a b) := by rw [cell_of_row _ _ _ _ _ _ G1.out]; exact hab
  go_wp2_with fail
  refine (HY.out _).mono ?_
  rintro e w' ⟨rfl, rfl⟩
  go_wp2_with fail
  refine (HX.out _).mono ?_
  rintro e w' ⟨rfl, rfl⟩
  go_wp2_with fail
  go_ret2
  exact ⟨rfl, B1.out⟩

theorem cell_place (s y x : Int) (hs : 1 ≤ s ∧ s ≤ 8) (hy : inside y 0 (s - 1) = true) (hx : inside x 0 (s - 1) = true) :
    ∃ k : Nat, k < 64 ∧ (s * y + x).toNat = k ∧ IntKind.i64.wrap (s * y) = s * y ∧ IntKind.i64.wrap (s * y + x) = (k : Int) := by
  have hyx : 0 ≤ y ∧ y ≤ s - 1 ∧ 0 ≤ x ∧ x ≤ s - 1 := by simp [inside] at hy hx; omega
  have hm0 : 0 ≤ s * y := Int.mul_nonneg (by omega) (by omega)
  have h7 : s * y ≤ s * (s - 1) := Int.mul_le_mul_of_nonneg_left hyx.2.1 (by omega)
  have h8 : s * (s - 1) ≤ 8 * (s - 1) := Int.mul_le_mul_of_nonneg_right hs.2 (by omega)
  refine ⟨(s * y + x).toNat, by omega, rfl, IntWalk.i64_in _ (by omega), ?_⟩
  rw [IntWalk.i64_in _ (by omega)]
  omega

theorem specCell_any (s : Int) (D : Array Value) (hD : Wav s D) (y x : Int) (w : World) :
    Calls Try.prog 30 #[.agg D, .int .i64 y, .int .i64 x] w fun e w' => e = .returned (cellAns s D y x) ∧ Below w.heap.size w w' := by
  unfold cellAns
  cases hw : isWav s D
  · exact specCell_no s D hD hw y x w
  · have hss : 1 ≤ s ∧ s ≤ 8 := by
      have : side s = true := by unfold isWav at hw; rw [Bool.and_eq_true] at hw; exact hw.1
      rcases side_yes s this with rfl | rfl | rfl | rfl <;> omega
    have hw1 : IntKind.i64.wrap (s - 1) = s - 1 := IntWalk.i64_in _ (by omega)
    cases hy : inside y 0 (s - 1)
    · exact specCell_y s D hD hw hw1 y x hy w
    · cases hx : inside x 0 (s - 1)
      · exact specCell_x s D hD hw hw1 y x hy hx w
      · obtain ⟨k, hk, hkt, hwm, hwa⟩ := cell_place s y x hss hy hx
        obtain ⟨a, b, hab⟩ := hD.2.2 k hk
        have hat := at_of D k a b hab
        rw [hkt, hat.1, hat.2]
        exact specCell_yes s D hD hw hw1 y x hy hx k a b hk hwm hwa hab w
end Go.Proofs.Ytdmeinaonliphaa

namespace Go.Proofs.Ytdmeinaonliphaa
open Go Go.RowKit

set_option maxRecDepth 100000 in
set_option maxHeartbeats 400000 in
theorem drawFlat_any (ad : Option Addr) (len cap : Nat) (w : World) (hc : Code ad len w) :
    Calls Try.prog 26 #[.slice ad len cap] w (fun e w' => ∃ n : Int, ∃ x y : Nat, e = .returned (.tuple #[.int .i64 n, .complex .f32 x y]) ∧
      (0 ≤ n ∧ n ≤ 16) ∧ Below w.heap.size w w') := by
  go_enter Try.func26, Try.ntmps26
  go_wp2_with fail
  refine (from_any ad len cap w hc).mono ?_
  rintro e w1 ⟨p, rfl, hp, hp1, s1, b1⟩
  go_wp2_with fail
  refine (pick_lit p [1, 2, 4, 8, 8, 4, 0, 3, 16] w1 s1 (by simp) (by simp)).mono ?_
  rintro e w2 ⟨n, hn, rfl, s2, o2⟩
  go_wp2_with fail
  refine (drawComplex_any p w2 s2).mono ?_
  rintro e w3 ⟨x, y, rfl, s3, o3⟩
  go_wp2_with fail
  go_ret2
  have hn' : 0 ≤ n ∧ n ≤ 16 := by simp at hn; omega
  exact ⟨n, x, y, rfl, hn', (o2.trans o3).after b1 hp (Nat.le_refl _)⟩

set_option maxRecDepth 100000 in
set_option maxHeartbeats 800000 in
theorem simple_any (p : Nat) (w : World) (hs : Src p w) : Calls Try.prog 137 #[.pointer (some ⟨p, 0, none⟩)] w (CplD p w) := by
  go_enter Try.func137, Try.ntmps137
  go_wp2_with fail
  refine (next_any p 6 w hs).mono ?_
  rintro e w1 ⟨r, rfl, r0, r1, s1, o1⟩
  have S := Lib.hid s1
  have O := Lib.hid o1
  clear s1 o1 hs
  by_cases h0 : r = 0
  · subst h0
    go_wp2_with fail
    go_ret
    exact ⟨_, _, rfl, S.out, O.out⟩
  by_cases h1 : r = 1
  · subst h1
    go_wp2_with fail
    go_ret
    exact ⟨_, _, rfl, S.out, O.out⟩
  by_cases h2 : r = 2
  · subst h2
    go_wp2_with fail
    refine (pick_lit p [1, -1] w1 S.out (by simp) (by simp)).mono ?_
    rintro e w2 ⟨n, hn, rfl, s2, o2⟩
    go_wp2_with fail
    go_ret
    exact ⟨_, _, rfl, s2, O.out.trans o2⟩
  by_cases h3 : r = 3
  · subst h3
    go_wp2_with fail
    refine (next_any p 64 w1 S.out).mono ?_
    rintro e w2 ⟨n, rfl, n0, n1, s2, o2⟩
    go_wp2_with fail
    refine (spec_phase n w2).mono ?_
    rintro e w3 ⟨rfl, rfl⟩
    go_wp2_with fail
    go_ret
    exact ⟨_, _, rfl, s2, O.out.trans o2⟩
  · go_wp2_with fail
    refine (next_any p 9 w1 S.out).mono ?_
    rintro e w2 ⟨n, rfl, n0, n1, s2, o2⟩
    have hw : IntKind.i64.wrap (n - 4) = n - 4 := IntWalk.i64_in _ (by omega)
    have S2 := Lib.hid s2
    have O2 := Lib.hid (O.out.trans o2)
    clear s2 o2 O S
    go_wp2_with fail
    (first | refine upon_gives (gives_arith _ _ (by decide) _ _ _ _ _) ?_ | refine upon_gives (gives_conv _ _ _ _ _) ?_ | refine upon_gives (gives_neg _ _ _ _) ?_)
    intro z wz hl
    replace S2 := Lib.hid (Like.src hl (S2).out)
    replace O2 := Lib.hid (Own.trans (O2).out (Like.own hl _))
    clear hl
    go_wp2_with fail
    (first | refine upon_gives (gives_arith _ _ (by decide) _ _ _ _ _) ?_ | refine upon_gives (gives_conv _ _ _ _ _) ?_ | refine upon_gives (gives_neg _ _ _ _) ?_)
    intro z wz hl
    replace S2 := Lib.hid (Like.src hl (S2).out)
    replace O2 := Lib.hid (Own.trans (O2).out (Like.own hl _))
    clear hl
    go_wp2_with fail
    refine (next_any p 9 _ S2.out).mono ?_
    rintro e w3 ⟨m, rfl, m0, m1, s3, o3⟩
    have hw : IntKind.i64.wrap (m - 4) = m - 4 := IntWalk.i64_in _ (by omega)
    have S3 := Lib.hid s3
    have O3 := Lib.hid (O2.out.trans o3)
    clear s3 o3 O2 S2
    go_wp2_with fail
    (first | refine upon_gives (gives_arith _ _ (by decide) _ _ _ _ _) ?_ | refine upon_gives (gives_conv _ _ _ _ _) ?_ | refine upon_gives (gives_neg _ _ _ _) ?_)
    intro z wz hl
    replace S3 := Lib.hid (Like.src hl (S3).out)
    replace O3 := Lib.hid (Own.trans (O3).out (Like.own hl _))
    clear hl
    go_wp2_with fail
    (first | refine upon_gives (gives_arith _ _ (by decide) _ _ _ _ _) ?_ | refine upon_gives (gives_conv _ _ _ _ _) ?_ | refine upon_gives (gives_neg _ _ _ _) ?_)
    intro z wz hl
    replace S3 := Lib.hid (Like.src hl (S3).out)
    replace O3 := Lib.hid (Own.trans (O3).out (Like.own hl _))
    clear hl
    go_wp2_with fail
    go_ret
    exact ⟨_, _, rfl, S3.out, O3.out⟩
end Go.Proofs.Ytdmeinaonliphaa

namespace Go.Proofs.Ytdmeinaonliphaa
open Go Go.RowKit

/-- a wave was drawn -/
def WavD (p : Nat) (s : Int) (w : World) (e : Ending) (w' : World) : Prop := ∃ D, e = .returned (.agg D) ∧ Wav s D ∧ Src p w' ∧ Own p w w'

theorem Src.setOther {p g j t : Nat} {s : Int} {w : World} {D : Array Value} {fr : Nat × Nat} {v : Value} (hs : Src p w) (hg : w.heap[g]? = some (.cells D t fr)) (hne : g ≠ p) (hD : Wav s D) : Src p (w.setCell ⟨g, j, none⟩ v) := by
  obtain ⟨len, cap, pos, ad, x, hx, a, b, c, d, hc⟩ := hs
  refine ⟨len, cap, pos, ad, x, by rw [heap_setCell_other _ _ _ _ hne.symm]; exact hx, a, b, c, d, fun h0 => ?_⟩
  obtain ⟨cb, off, e, ne, lt, hb⟩ := hc h0
  have hcg : cb ≠ g := by
    rintro rfl
    obtain ⟨y, _, _, hy⟩ := hb 0 h0
    rw [cell_of_row _ _ _ _ _ _ hg] at hy
    exact wav_no hD _ _ hy
  refine ⟨cb, off, e, ne, by rw [World.size_setCell]; exact lt, fun i hi => ?_⟩
  obtain ⟨y, y0, y1, hy⟩ := hb i hi
  refine ⟨y, y0, y1, ?_⟩
  unfold World.cell?
  rw [heap_setCell_other _ _ _ _ hcg]
  exact hy

theorem Own.setRow {p : Nat} {a w : World} (h : Own p a w) (g : Nat) (cs : Array Value) (hg : a.heap.size ≤ g) : Own p a (w.setRow g cs) :=
  ⟨h.os, h.tape, h.output, by rw [size_setRow]; exact h.size, fun k hk hp => by
    rw [heap_setRow_other _ _ _ _ (by omega)]; exact h.block k hk hp⟩
theorem Src.setRow {p g t : Nat} {s : Int} {w : World} {D : Array Value} {fr : Nat × Nat} (hs : Src p w) (hg : w.heap[g]? = some (.cells D t fr)) (hne : g ≠ p) (hD : Wav s D) (cs : Array Value) : Src p (w.setRow g cs) := by
  obtain ⟨len, cap, pos, ad, x, hx, a, b, c, d, hc⟩ := hs
  refine ⟨len, cap, pos, ad, x, by rw [heap_setRow_other _ _ _ _ hne.symm]; exact hx, a, b, c, d, fun h0 => ?_⟩
  obtain ⟨cb, off, e, ne, lt, hb⟩ := hc h0
  have hcg : cb ≠ g := by
    rintro rfl
    obtain ⟨y, _, _, hy⟩ := hb 0 h0
    rw [cell_of_row _ _ _ _ _ _ hg] at hy
    exact wav_no hD _ _ hy
  refine ⟨cb, off, e, ne, by rw [size_setRow]; exact lt, fun i hi => ?_⟩
  obtain ⟨y, y0, y1, hy⟩ := hb i hi
  refine ⟨y, y0, y1, ?_⟩
  unfold World.cell?
  rw [heap_setRow_other _ _ _ _ hcg]
  exact hy

/-- where a wave lies while it is drawn -/
def Lies (p : Nat) (s : Int) (w : World) (g : Nat) (wr : World) : Prop :=
  ∃ D, wr.heap[g]? = some (.cells D 32 (0, 0)) ∧ Wav s D ∧ Src p wr ∧ Own p w wr

theorem Lies.own {p g : Nat} {s : Int} {w a b : World} (h : Lies p s w g a) (hne : g ≠ p) (hs : Src p b) (ho : Own p a b) : Lies p s w g b := by
  obtain ⟨D, hg, hd, s0, o0⟩ := h
  have hl : g < a.heap.size := by
    by_cases hl : g < a.heap.size
    · exact hl
    · rw [Array.getElem?_eq_none (by omega)] at hg; cases hg
  exact ⟨D, by rw [ho.block g hl hne]; exact hg, hd, hs, o0.trans ho⟩
theorem Lies.set {p g : Nat} {s : Int} {w a : World} (h : Lies p s w g a) (hne : g ≠ p) (hn : w.heap.size ≤ g) (k x y : Nat) : Lies p s w g (a.setCell ⟨g, 1 + k, none⟩ (.complex .f32 x y)) := by
  obtain ⟨D, hg, hd, s0, o0⟩ := h
  exact ⟨D.setIfInBounds (1 + k) (.complex .f32 x y), heap_setCell_same _ _ _ _ _ _ hg, wav_set hd k x y, s0.setOther hg hne hd, o0.setNew g _ _ hn⟩
theorem Lies.cell {p g : Nat} {s : Int} {w a : World} (h : Lies p s w g a) (k : Nat) (hk : k < 64) : ∃ x y, a.cell? ⟨g, 1 + k, none⟩ = some (.complex .f32 x y) := by
  obtain ⟨D, hg, hd, _⟩ := h
  obtain ⟨x, y, e⟩ := hd.2.2 k hk
  exact ⟨x, y, by rw [cell_of_row _ _ _ _ _ _ hg]; exact e⟩
theorem Lies.free {p g : Nat} {s : Int} {w a : World} (h : Lies p s w g a) (k : Nat) : a.frozen? ⟨g, 1 + k, none⟩ = false := by
  obtain ⟨D, hg, _⟩ := h
  exact frozen_of_row _ _ _ _ _ hg
end Go.Proofs.Ytdmeinaonliphaa
