/- A step of the program's unwrapping: the height of one cell from that of another. Condition: two places of the map, small heights. -/
import Derived.Test.YtjmfffgddmnkmacUf
namespace Go.Proofs.Ytjmfffgddmnkmac
open Go Go.RowKit
attribute [local go_sem ↓] Go.wp_at_zero Go.wp_at_succ

set_option maxRecDepth 100000 in
set_option maxHeartbeats 3200000 in
theorem step_any (B b cap g N i j : Nat) (L U : List Int) (w : World) (hi : i < N) (hj : j < N) (hij : i ≠ j) (hN : N ≤ 64) (hU : U.length = N) (hb : b < w.heap.size) (hbg : b ≠ g)
    (hci : w.cell? ⟨b, i, none⟩ = some (.int .i64 (L.getD i 0))) (hcj : w.cell? ⟨b, j, none⟩ = some (.int .i64 (L.getD j 0)))
    (hx : 0 ≤ L.getD i 0 ∧ L.getD i 0 ≤ 63) (hy : 0 ≤ L.getD j 0 ∧ L.getD j 0 ≤ 63) (hu : -4096 ≤ U.getD i 0 ∧ U.getD i 0 ≤ 4096)
    (hO : Own B (.slice (some ⟨g, 0, none⟩) N N) U w) :
    Calls Try.prog 32 #[.agg #[.slice (some ⟨b, 0, none⟩) N cap, .slice (some ⟨g, 0, none⟩) N N], .int .i64 i, .int .i64 j] w fun e w' =>
      (∃ r, e = .returned r) ∧ Own B (.slice (some ⟨g, 0, none⟩) N N) (U.set j (U.getD i 0 + lessH (L.getD i 0) (L.getD j 0))) w' ∧ w.grownBy w' (some g) := by
  have hi0 : (0 : Int) ≤ (i : Int) := by omega
  have hi1 : (i : Int) < (N : Int) := by omega
  have hj0 : (0 : Int) ≤ (j : Int) := by omega
  have hj1 : (j : Int) < (N : Int) := by omega
  have hl1 := lessH_range (L.getD i 0) (L.getD j 0)
  have HD := Lib.hid (fun w => wrappedDiff_any (L.getD i 0) (L.getD j 0) (by omega) (by omega) w)
  have hg : g < w.heap.size := by
    obtain ⟨g', c', e', _, h'⟩ := hO.form (by omega)
    simp only [Value.slice.injEq, Option.some.injEq, Addr.mk.injEq, and_true] at e'
    omega
  have HOS := Lib.hid (fun (W : World) (O : Own B (.slice (some ⟨g, 0, none⟩) N N) U W) => by
    have o2 : Own B (.slice (some ⟨g, 0, none⟩) U.length N) U W := by rw [hU]; exact O
    have := o2.stored j (U.getD i 0 + lessH (L.getD i 0) (L.getD j 0))
    rw [hU] at this
    exact (⟨this, o2.free j, o2.cell i (by omega), o2.cell j (by omega)⟩ : Own B (.slice (some ⟨g, 0, none⟩) N N) (U.set j (U.getD i 0 + lessH (L.getD i 0) (L.getD j 0))) (W.setCell ⟨g, j, none⟩ (.int .i64 (U.getD i 0 + lessH (L.getD i 0) (L.getD j 0)))) ∧ W.frozen? ⟨g, j, none⟩ = false ∧ W.cell? ⟨g, i, none⟩ = some (.int .i64 (U.getD i 0)) ∧ W.cell? ⟨g, j, none⟩ = some (.int .i64 (U.getD j 0))))
  generalize L.getD i 0 = x at *
  generalize L.getD j 0 = y at *
  generalize U.getD i 0 = u at *
  generalize U.getD j 0 = u2 at *
  generalize lessH x y = d at *
  have hud : IntKind.i64.wrap (u + d) = u + d := IntWalk.i64_in _ (by omega)
  have HI := Lib.hid hci
  have HJ := Lib.hid hcj
  have HO := Lib.hid hO
  clear hci hcj hO
  go_enter Try.func32, Try.ntmps32
  go_wp2_with fail
  have O2 : Hid (Own B (.slice (some ⟨g, 0, none⟩) N N) U (w.alloc (.cells #[.slice (some ⟨b, 0, none⟩) N cap, .slice (some ⟨g, 0, none⟩) N N] 60))) := Lib.hid (HO.out.alloc _)
  have U2 : (w.alloc (.cells #[.slice (some ⟨b, 0, none⟩) N cap, .slice (some ⟨g, 0, none⟩) N N] 60)).heap[w.heap.size]? = some (.cells #[.slice (some ⟨b, 0, none⟩) N cap, .slice (some ⟨g, 0, none⟩) N N] 60) := heap_alloc_new w _
  have c1 : (w.alloc (.cells #[.slice (some ⟨b, 0, none⟩) N cap, .slice (some ⟨g, 0, none⟩) N N] 60)).cell? ⟨b, i, none⟩ = some (.int .i64 x) := (World.cell?_alloc_past _ _ _ hb).trans HI.out
  have c2 : (w.alloc (.cells #[.slice (some ⟨b, 0, none⟩) N cap, .slice (some ⟨g, 0, none⟩) N N] 60)).cell? ⟨b, j, none⟩ = some (.int .i64 y) := (World.cell?_alloc_past _ _ _ hb).trans HJ.out
  have G2 : Hid (w.grownBy (w.alloc (.cells #[.slice (some ⟨b, 0, none⟩) N cap, .slice (some ⟨g, 0, none⟩) N N] 60)) (some g)) := Lib.hid (World.grownBy_alloc w _ _)
  generalize (w.alloc (.cells #[.slice (some ⟨b, 0, none⟩) N cap, .slice (some ⟨g, 0, none⟩) N N] 60)) = v at *
  obtain ⟨o3, f3, c3, c4⟩ := HOS.out v O2.out
  have HLt := Lib.hid hg
  have k0 : v.cell? ⟨w.heap.size, 0, none⟩ = some (.slice (some ⟨b, 0, none⟩) N cap) := by rw [cell_of_row _ _ _ _ _ _ U2]; rfl
  have k1 : v.cell? ⟨w.heap.size, 1, none⟩ = some (.slice (some ⟨g, 0, none⟩) N N) := by rw [cell_of_row _ _ _ _ _ _ U2]; rfl
  have O3 := Lib.hid o3
  have G3 : Hid (w.grownBy (v.setCell ⟨g, j, none⟩ (.int .i64 (u + d))) (some g)) := by
    have g1 := G2.out
    refine Lib.hid ⟨g1.os, g1.tape, g1.output, by simpa [World.setCell] using g1.size, fun k hk hne => ?_⟩
    rw [Below.heap_setCell _ _ _ _ (fun e => hne (by rw [e]))]
    exact g1.block k hk hne
  have HE : Hid ((v.setCell ⟨g, j, none⟩ (.int .i64 (u + d))).drew.cell? ⟨w.heap.size, 0, none⟩ = some (.slice (some ⟨b, 0, none⟩) N cap) ∧ (v.setCell ⟨g, j, none⟩ (.int .i64 (u + d))).drew.cell? ⟨w.heap.size, 1, none⟩ = some (.slice (some ⟨g, 0, none⟩) N N) ∧
      (v.setCell ⟨g, j, none⟩ (.int .i64 (u + d))).drew.cell? ⟨g, i, none⟩ = some (.int .i64 u) ∧ (v.setCell ⟨g, j, none⟩ (.int .i64 (u + d))).drew.cell? ⟨b, i, none⟩ = some (.int .i64 x) ∧ (v.setCell ⟨g, j, none⟩ (.int .i64 (u + d))).drew.cell? ⟨b, j, none⟩ = some (.int .i64 y)) := Lib.hid (by
    refine ⟨?_, ?_, ?_, ?_, ?_⟩
    · rw [World.cell?_drew, World.cell?_setCell_other _ _ _ _ (by intro h; injection h; omega)]; exact k0
    · rw [World.cell?_drew, World.cell?_setCell_other _ _ _ _ (by intro h; injection h; omega)]; exact k1
    · rw [World.cell?_drew, World.cell?_setCell_other _ _ _ _ (by intro h; injection h; omega)]; exact c3
    · rw [World.cell?_drew, World.cell?_setCell_other _ _ _ _ (by intro h; injection h; omega)]; exact c1
    · rw [World.cell?_drew, World.cell?_setCell_other _ _ _ _ (by intro h; injection h; omega)]; exact c2)
  have he := HE.out
  rw [World.cell?_drew, World.cell?_drew, World.cell?_drew, World.cell?_drew, World.cell?_drew] at he
  obtain ⟨e0, e1, e2, e3, e4⟩ := he
  clear o3 hg hb U2 HE
  go_region_held3 (fun w' => w'.cell? ⟨w.heap.size, 0, none⟩ = some (.slice (some ⟨b, 0, none⟩) N cap) ∧ w'.cell? ⟨w.heap.size, 1, none⟩ = some (.slice (some ⟨g, 0, none⟩) N N) ∧ w'.cell? ⟨g, i, none⟩ = some (.int .i64 u) ∧ w'.cell? ⟨b, i, none⟩ = some (.int .i64 x) ∧ w'.cell? ⟨b, j, none⟩ = some (.int .i64 y))
    (go_keep)
    (first | (go_at_call 59; refine (HD.out _).mono ?_; rintro e w' ⟨rfl, rfl⟩))
  go_wp2_with fail
  refine bodyPost_end (results_none rfl _ _ _) rfl ?_
  exact ⟨⟨_, rfl⟩, O3.out.drew, ⟨G3.out.os, G3.out.tape, G3.out.output, G3.out.size, G3.out.block⟩⟩
end Go.Proofs.Ytjmfffgddmnkmac
