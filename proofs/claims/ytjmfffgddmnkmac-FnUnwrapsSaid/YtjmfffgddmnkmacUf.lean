/- The program's unwrapping: where it begins, and a step of it. Condition: wrapped heights at places of the map. -/
import Derived.Test.YtjmfffgddmnkmacM9
import Derived.Test.YtjmfffgddmnkmacM10
import Derived.Test.YtjmfffgddmnkmacUw
import Derived.Deep.RegionHeld3
import Derived.Deep.DrawnRows
import Derived.Laws.ResultCell
namespace Go.Proofs.Ytjmfffgddmnkmac
open Go Go.RowKit
attribute [local go_sem ↓] Go.wp_at_zero Go.wp_at_succ

theorem results_row_1 {P : Program} {fn : Func} {p : Tmp} {ty : TypeId} (h : fn.results = #[.cell p ty]) (tmps : Array Value) (w : World) (g : Nat) (t : TypeId) (cs : Array Value) (fr : Nat × Nat) (d : TypeDesc)
    (hp : tmps.getD p undef = .pointer (some ⟨g, 0, none⟩)) (hg : w.heap[g]? = some (.cells cs t fr))
    (hu : P.underlying ty = some d) (hd : (match d with | .struct _ | .array _ _ => true | _ => false) = true) (hi : (P.info? ty).map (·.size) = some cs.size) :
    (results fn tmps).run P w = .ok (.agg cs) w := by
  have hp' : tmps[p]?.getD undef = .pointer (some ⟨g, 0, none⟩) := by simpa using hp
  simp only [results, h]
  simp [asAddr, hp', run_loadVar_row w g t ty cs fr d hg hu hd hi]

theorem infoUnw : (Try.prog.info? 60).map (fun i => (i.zero, i.size)) = some (some (.agg #[.slice none 0 0, .slice none 0 0]), 2) := by kernel_rfl

set_option maxRecDepth 100000 in
set_option maxHeartbeats 1600000 in
theorem unwrapFrom_any (b cap N p : Nat) (L : List Int) (w : World) (hp : p < N) (hN : N ≤ 64) (hL : L.length = N) (hb : b < w.heap.size) (hc : w.cell? ⟨b, p, none⟩ = some (.int .i64 (L.getD p 0))) :
    Calls Try.prog 31 #[.slice (some ⟨b, 0, none⟩) N cap, .int .i64 p] w fun e w' =>
      ∃ g, e = .returned (.agg #[.slice (some ⟨b, 0, none⟩) N cap, .slice (some ⟨g, 0, none⟩) N N]) ∧ Own w.heap.size (.slice (some ⟨g, 0, none⟩) N N) ((List.replicate N 0).set p (L.getD p 0)) w' ∧ Below w.heap.size w w' := by
  obtain ⟨i0, hi, hz0, hz1, hz2⟩ := info_parts info64
  have hp0 : (0 : Int) ≤ (p : Int) := by omega
  have hp1 : (p : Int) < (N : Int) := by omega
  have HC := Lib.hid hc
  have HB := Lib.hid hb
  have HL := Lib.hid hL
  clear hc hb hL
  generalize L.getD p 0 = x at *
  go_enter Try.func31, Try.ntmps31
  go_wp2_with (refine wpList_make_full _ rfl _ _ 24 rfl (w.heap.size + 1) 2 i0 (.int .i64 0) 1 Try.underlying24 hi hz0 hz1 .i64 .i64 N N N rfl rfl rfl rfl ?b2 ?b3 (by simp) ?_)
  case b2 => rw [hz2]; omega
  case b3 => unfold maxLen; omega
  intro w1 hown hgrow
  clear hi hz0 hz1 hz2
  have hs1 : w.heap.size < w1.heap.size := by have := hgrow.size; simp at this; omega
  have O1 : Own (w.heap.size + 1) (.slice (some ⟨w.heap.size + 1, 0, none⟩) N N) (List.replicate N 0) w1 := by
    rw [toList_madeCells_one] at hown
    unfold Own
    rw [List.length_replicate, List.map_replicate]
    exact hown
  have B1 : Below w.heap.size w w1 := ((Below.refl _ _).alloc (Nat.le_refl _) _).grown hgrow (by simp) (fun k hk => by cases hk)
  have T1 : w1.heap[w.heap.size]? = some (.cells #[.slice none 0 0, .slice none 0 0] 60) := by
    rw [hgrow.block _ (by simp) (by simp)]; exact heap_alloc_new w _
  clear hown hgrow
  go_wp2_with fail
  have O2 : Own (w.heap.size + 1) (.slice (some ⟨w.heap.size + 1, 0, none⟩) N N) (List.replicate N 0) (w1.alloc (.cells #[.slice (some ⟨b, 0, none⟩) N cap, .slice (some ⟨w.heap.size + 1, 0, none⟩) N N] 60)) := O1.alloc _
  have B2 : Below w.heap.size w (w1.alloc (.cells #[.slice (some ⟨b, 0, none⟩) N cap, .slice (some ⟨w.heap.size + 1, 0, none⟩) N N] 60)) := B1.alloc (by omega) _
  have T2 : (w1.alloc (.cells #[.slice (some ⟨b, 0, none⟩) N cap, .slice (some ⟨w.heap.size + 1, 0, none⟩) N N] 60)).heap[w.heap.size]? = some (.cells #[.slice none 0 0, .slice none 0 0] 60) := by rw [Below.heap_alloc _ _ _ hs1]; exact T1
  have U2 : (w1.alloc (.cells #[.slice (some ⟨b, 0, none⟩) N cap, .slice (some ⟨w.heap.size + 1, 0, none⟩) N N] 60)).heap[w1.heap.size]? = some (.cells #[.slice (some ⟨b, 0, none⟩) N cap, .slice (some ⟨w.heap.size + 1, 0, none⟩) N N] 60) := heap_alloc_new w1 _
  have hg1 : w.heap.size + 1 < w1.heap.size := by
    obtain ⟨g, c, e, _, h⟩ := O1.form (by rw [List.length_replicate]; omega)
    simp only [Value.slice.injEq, Option.some.injEq, Addr.mk.injEq, and_true] at e
    omega
  generalize w1.alloc (.cells #[.slice (some ⟨b, 0, none⟩) N cap, .slice (some ⟨w.heap.size + 1, 0, none⟩) N N] 60) = v at *
  clear O1 B1 T1
  have o2 : Own (w.heap.size + 1) (.slice (some ⟨w.heap.size + 1, 0, none⟩) (List.replicate N (0 : Int)).length N) (List.replicate N 0) v := by rw [List.length_replicate]; exact O2
  have f2 := o2.free p
  have d2 := o2.cell p (by rw [List.length_replicate]; exact hp)
  have O3 : Hid (Own (w.heap.size + 1) (.slice (some ⟨w.heap.size + 1, 0, none⟩) N N) ((List.replicate N 0).set p x) (v.setCell ⟨w.heap.size + 1, p, none⟩ (.int .i64 x))) := Lib.hid (by
    have := o2.stored p x
    rw [List.length_replicate] at this
    exact this)
  have B3 := Lib.hid (B2.setCell (p := ⟨w.heap.size + 1, p, none⟩) (by simp) (.int .i64 x))
  have c0 : v.cell? ⟨w1.heap.size, 0, none⟩ = some (.slice (some ⟨b, 0, none⟩) N cap) := by rw [cell_of_row _ _ _ _ _ _ U2]; rfl
  have c1 : v.cell? ⟨w1.heap.size, 1, none⟩ = some (.slice (some ⟨w.heap.size + 1, 0, none⟩) N N) := by rw [cell_of_row _ _ _ _ _ _ U2]; rfl
  have e0 : (v.setCell ⟨w.heap.size + 1, p, none⟩ (.int .i64 x)).cell? ⟨w1.heap.size, 0, none⟩ = some (.slice (some ⟨b, 0, none⟩) N cap) := by
    rw [World.cell?_setCell_other _ _ _ _ (by intro h; injection h; omega)]; exact c0
  have e1 : (v.setCell ⟨w.heap.size + 1, p, none⟩ (.int .i64 x)).cell? ⟨w1.heap.size, 1, none⟩ = some (.slice (some ⟨w.heap.size + 1, 0, none⟩) N N) := by
    rw [World.cell?_setCell_other _ _ _ _ (by intro h; injection h; omega)]; exact c1
  have cb : v.cell? ⟨b, p, none⟩ = some (.int .i64 x) := (B2.cell (p := ⟨b, p, none⟩) HB.out).trans HC.out
  have eb : (v.setCell ⟨w.heap.size + 1, p, none⟩ (.int .i64 x)).cell? ⟨b, p, none⟩ = some (.int .i64 x) := by
    rw [World.cell?_setCell_other _ _ _ _ (by have := HB.out; intro h; injection h; omega)]; exact cb
  have T3 : Hid ((v.setCell ⟨w.heap.size + 1, p, none⟩ (.int .i64 x)).heap[w.heap.size]? = some (.cells #[.slice none 0 0, .slice none 0 0] 60)) := Lib.hid (by
    rw [Below.heap_setCell _ _ _ _ (by simp)]; exact T2)
  have t0 : v.cell? ⟨w.heap.size, 0, none⟩ = some (.slice none 0 0) := by rw [cell_of_row _ _ _ _ _ _ T2]; rfl
  have t1 : v.cell? ⟨w.heap.size, 1, none⟩ = some (.slice none 0 0) := by rw [cell_of_row _ _ _ _ _ _ T2]; rfl
  have tf : v.frozen? ⟨w.heap.size, 0, none⟩ = false := frozen_of_row _ _ _ _ _ T2
  have tg : v.frozen? ⟨w.heap.size, 1, none⟩ = false := frozen_of_row _ _ _ _ _ T2
  clear o2 O2 B2 T2 U2
  go_region_held3 (fun w' => w'.cell? ⟨w1.heap.size, 1, none⟩ = some (.slice (some ⟨w.heap.size + 1, 0, none⟩) N N) ∧ w'.cell? ⟨b, p, none⟩ = some (.int .i64 x))
    (first | go_keep | exact ⟨e1, eb⟩) (fail)
  go_wp2_with fail
  refine bodyPost_ret (v := .agg #[.slice (some ⟨b, 0, none⟩) N cap, .slice (some ⟨w.heap.size + 1, 0, none⟩) N N]) (results_row_1 (fn := Try.f31) (p := 4) (ty := 60) rfl _ _ w.heap.size 60 #[.slice (some ⟨b, 0, none⟩) N cap, .slice (some ⟨w.heap.size + 1, 0, none⟩) N N] (0, 0) _ rfl ?_ Try.underlying60 rfl (by kernel_rfl)) rfl ⟨w.heap.size + 1, rfl, ?_, ?_⟩
  · exact heap_setCell_same _ _ 1 _ _ _ (heap_setCell_same _ _ 0 _ _ _ T3.out)
  · exact ((ownsRow_setCell_below (ownsRow_setCell_below O3.out (by simp) _) (by simp) _ : World.ownsRow _ _ _ _ _ _ _)).mono (by omega)
  · exact ((B3.out.setCell (p := ⟨w.heap.size, 0, none⟩) (Nat.le_refl _) _).setCell (p := ⟨w.heap.size, 1, none⟩) (Nat.le_refl _) _).drew
end Go.Proofs.Ytjmfffgddmnkmac
