/- The exact law of the difference: its walk. Condition: 64 floats each; the program's error holds the library's. -/
import Derived.Test.YtjmfffgddmnkmabDoorDf
import Derived.Deep.RegionHeld3
import Derived.Deep.CutBlock
import Derived.Deep.DeepCutAuto
namespace Go.Proofs.YtjmfffgddmnkmabDoor
open Go Go.RowKit

/-- what stays while the two pictures are handed on -/
def Both (w : World) (cs ds : Array Value) (w' : World) : Prop :=
  w'.heap[w.heap.size]? = some (.cells cs 33 (0, 0)) ∧ w'.heap[w.heap.size + 1]? = some (.cells ds 33 (0, 0)) ∧ Below w.heap.size w w'
theorem Both.below {w : World} {cs ds : Array Value} {v v' : World} (h : Both w cs ds v) (b : Below v.heap.size v v') : Both w cs ds v' := by
  obtain ⟨h1, h2, h3⟩ := h
  exact ⟨by rw [b.block _ (Array.getElem?_eq_some_iff.1 h1).1]; exact h1, by rw [b.block _ (Array.getElem?_eq_some_iff.1 h2).1]; exact h2, h3.trans (b.mono h3.size)⟩
theorem yieldsIf_rowq {ops : Array Oper} {S : World → Prop} {op : Oper} {a : Act} (hw : Region.wanted op (yielded ops a.tmps) = true) (x : Operand) (ho : op.op = .load 33 x)
    (b : Nat) (hx : a.eval x = .pointer (some ⟨b, 0, none⟩)) (D : Array Value) (hS : ∀ w, S w → (loadVar 33 ⟨b, 0, none⟩).run Tryd.prog w = .ok (.agg D) w) : YieldsIf Tryd.prog ops S op (.agg D) a :=
  .inl ⟨hw, fun w hw' => by
    unfold execOp
    simp only [ho, hx, Instr.loadAt, Instr.sureAddr, Sem.run_bind, Sem.run_pure, Result.andThen_ok, hS w hw']⟩

set_option maxRecDepth 100000 in
set_option maxHeartbeats 2000000 in
theorem lawDf_any (s : Int) (zs : Array Value) (u : Int) (ys : Array Value) (hz : Floats zs) (hy : Floats ys) (a : Addr) (w : World) (hE : Err a w) : Calls Tryd.prog 6 #[.agg (pic s zs), .agg (pic u ys)] w fun e w' => e = .returned (.bool true) ∧ Below w.heap.size w w' := by
  have HSP := Lib.hid (size30 s zs hz)
  have HUP := Lib.hid (size30 u ys hy)
  have HA := Lib.hid (toPic_any s zs hz)
  have HB := Lib.hid (toPic_any u ys hy)
  have HS := Lib.hid (specDf_any s u zs ys hz hy)
  have HI : Hid (∀ v, Err a v → Calls Tryd.prog 17 #[.agg (pic s zs), .agg (pic u ys)] v fun e w' => e = .returned (.tuple #[.float .f32 (ansDf s u zs ys).1, .int .i64 (ansDf s u zs ys).2]) ∧ Below v.heap.size v w') := Lib.hid fun v hv => implDf_any s u zs ys hz hy a v hv
  obtain ⟨c, hc, hown⟩ := conv_notnan _ (ansDf_num s u zs ys)
  have hcv := fun w => run_convert_float_float (P := Tryd.prog) w 30 39 .f32 .f64 _ c (by rw [Tryd.underlying30]; rfl) Tryd.underlying39 hc
  have HO := Lib.hid hown
  have HEE := Lib.hid hE
  clear hc hown hE hz hy
  generalize (ansDf s u zs ys).1 = r at *
  generalize (ansDf s u zs ys).2 = k at *
  generalize pic s zs = cs at *
  generalize pic u ys = ds at *
  have hkk : (k != k) = false := by simp
  have LC : Hid (∀ w', Both w cs ds w' → (loadVar 33 ⟨w.heap.size, 0, none⟩).run Tryd.prog w' = .ok (.agg cs) w') := Lib.hid fun w' h => run_loadVar_row w' _ 33 33 cs (0, 0) _ h.1 Tryd.underlying33 rfl HSP.out
  have LD : Hid (∀ w', Both w cs ds w' → (loadVar 33 ⟨w.heap.size + 1, 0, none⟩).run Tryd.prog w' = .ok (.agg ds) w') := Lib.hid fun w' h => run_loadVar_row w' _ 33 33 ds (0, 0) _ h.2.1 Tryd.underlying33 rfl HUP.out
  go_enter Tryd.func6, Tryd.ntmps6
  go_upto_region 1 with fail
  have K0 : Hid (Both w cs ds ((w.alloc (.cells cs 33 )).alloc (.cells ds 33 ))) := Lib.hid ⟨h2_0 _ _ _, h2_1 _ _ _, below_al2 _ _ _⟩
  generalize (w.alloc (.cells cs 33 )).alloc (.cells ds 33 ) = v at *
  go_cut [5, 6] (fun o e wx => o = .float .f32 r ∧ e = .int .i64 k ∧ Hid (Both w cs ds wx))
  case first =>
    refine wp_region_noPanic ?_
    refine wp_region_held_drew (S := Both w cs ds) (by kernel_rfl) (K0.out.below (below_drewN (Below.refl _ _) 1)) (fun h1 => ?_)
    refine wpAnyH_take (i := 0) rfl (by kernel_rfl) (by kernel_rfl) (by kernel_rfl) (fun _ _ _ h => h) (yieldsIf_rowq rfl (.tmp 2) rfl w.heap.size rfl cs LC.out) h1 ?_
    simp only [Act.put]
    refine wpAnyH_take (i := 2) rfl (by kernel_rfl) (by kernel_rfl) (by kernel_rfl) (fun _ _ _ h => h) (yieldsIf_rowq rfl (.tmp 3) rfl (w.heap.size + 1) rfl ds LD.out) h1 ?_
    simp only [Act.put]
    refine wpAnyH_ready (rs := [1]) (by kernel_rfl) (by simp) ?_
    refine AllReadyH.cons (o := _) rfl (fun K hK => ?_) AllReadyH.nil
    rw [if_pos (by rfl)]
    go_simp
    refine (HA.out _).mono ?_
    rintro e xh2 ⟨rfl, bh2⟩
    refine hK.out _ _ (h1.below bh2) (fun h2 => ?_)
    clear hK K
    refine wpAnyH_ready (rs := [3]) (by kernel_rfl) (by simp) ?_
    refine AllReadyH.cons (o := _) rfl (fun K hK => ?_) AllReadyH.nil
    rw [if_pos (by rfl)]
    go_simp
    refine (HB.out _).mono ?_
    rintro e xh3 ⟨rfl, bh3⟩
    refine hK.out _ _ (h2.below bh3) (fun h3 => ?_)
    clear hK K
    refine wpAnyH_ready (rs := [4]) (by kernel_rfl) (by simp) ?_
    refine AllReadyH.cons (o := _) rfl (fun K hK => ?_) AllReadyH.nil
    rw [if_pos (by rfl)]
    go_simp
    refine (HS.out _).mono ?_
    rintro e xh4 ⟨rfl, bh4⟩
    refine hK.out _ _ (h3.below bh4) (fun h4 => ?_)
    clear hK K
    refine wpAnyH_take (i := 5) (v := .tuple #[.float .f32 r, .int .i64 k]) rfl (by kernel_rfl) (by kernel_rfl) (by kernel_rfl) (fun _ _ _ h => h) (Or.inl ⟨by rfl, fun w' hSw => by go_simp⟩) h4 ?_
    refine (show wpAnyH _ _ _ _ _ _ _ (Act.put _ (some 9) _) _ from ?_)
    simp only [Act.put]
    refine wpAnyH_take (i := 6) (v := .float .f32 r) rfl (by kernel_rfl) (by kernel_rfl) (by kernel_rfl) (fun _ _ _ h => h) (Or.inl ⟨by rfl, fun w' hSw => by go_simp⟩) h4 ?_
    refine (show wpAnyH _ _ _ _ _ _ _ (Act.put _ (some 15) _) _ from ?_)
    simp only [Act.put]
    refine wpAnyH_take (i := 7) (v := .int .i64 k) rfl (by kernel_rfl) (by kernel_rfl) (by kernel_rfl) (fun _ _ _ h => h) (Or.inl ⟨by rfl, fun w' hSw => by go_simp⟩) h4 ?_
    refine (show wpAnyH _ _ _ _ _ _ _ (Act.put _ (some 16) _) _ from ?_)
    simp only [Act.put]
    refine wpAnyH_take (i := 8) (v := .float .f32 r) rfl (by kernel_rfl) (by kernel_rfl) (by kernel_rfl) (fun _ _ _ h => h) (Or.inl ⟨by rfl, fun w' hSw => by go_simp⟩) h4 ?_
    refine (show wpAnyH _ _ _ _ _ _ _ (Act.put _ (some 5) _) _ from ?_)
    simp only [Act.put]
    refine wpAnyH_take (i := 9) (v := .int .i64 k) rfl (by kernel_rfl) (by kernel_rfl) (by kernel_rfl) (fun _ _ _ h => h) (Or.inl ⟨by rfl, fun w' hSw => by go_simp⟩) h4 ?_
    refine (show wpAnyH _ _ _ _ _ _ _ (Act.put _ (some 6) _) _ from ?_)
    simp only [Act.put]
    refine wpAnyH_done (by kernel_rfl) ?_ _
    refine NoPanic.normal ?_
    go_wp2_with fail
    go_meet
    exact ⟨rfl, rfl, Lib.hid h4⟩

  case rest =>
  obtain ⟨rfl, rfl, K1⟩ := hcut
  clear K0
  go_upto_region 2 with fail
  have K0 := K1
  clear K1
  go_cut [7, 8] (fun o e wx => o = .float .f32 r ∧ e = .int .i64 k ∧ Hid (Both w cs ds wx))
  case first =>
    refine wp_region_noPanic ?_
    refine wp_region_held_drew (S := Both w cs ds) (by kernel_rfl) (K0.out.below (below_drewN (Below.refl _ _) 1)) (fun h1 => ?_)
    refine wpAnyH_take (i := 0) rfl (by kernel_rfl) (by kernel_rfl) (by kernel_rfl) (fun _ _ _ h => h) (yieldsIf_rowq rfl (.tmp 2) rfl w.heap.size rfl cs LC.out) h1 ?_
    simp only [Act.put]
    refine wpAnyH_take (i := 2) rfl (by kernel_rfl) (by kernel_rfl) (by kernel_rfl) (fun _ _ _ h => h) (yieldsIf_rowq rfl (.tmp 3) rfl (w.heap.size + 1) rfl ds LD.out) h1 ?_
    simp only [Act.put]
    refine wpAnyH_ready (rs := [1]) (by kernel_rfl) (by simp) ?_
    refine AllReadyH.cons (o := _) rfl (fun K hK => ?_) AllReadyH.nil
    rw [if_pos (by rfl)]
    go_simp
    refine (HA.out _).mono ?_
    rintro e xh2 ⟨rfl, bh2⟩
    refine hK.out _ _ (h1.below bh2) (fun h2 => ?_)
    clear hK K
    refine wpAnyH_ready (rs := [3]) (by kernel_rfl) (by simp) ?_
    refine AllReadyH.cons (o := _) rfl (fun K hK => ?_) AllReadyH.nil
    rw [if_pos (by rfl)]
    go_simp
    refine (HB.out _).mono ?_
    rintro e xh3 ⟨rfl, bh3⟩
    refine hK.out _ _ (h2.below bh3) (fun h3 => ?_)
    clear hK K
    refine wpAnyH_ready (rs := [4]) (by kernel_rfl) (by simp) ?_
    refine AllReadyH.cons (o := _) rfl (fun K hK => ?_) AllReadyH.nil
    rw [if_pos (by rfl)]
    go_simp
    refine (HI.out _ (HEE.out.cell h3.2.2)).mono ?_
    rintro e xh4 ⟨rfl, bh4⟩
    refine hK.out _ _ (h3.below bh4) (fun h4 => ?_)
    clear hK K
    refine wpAnyH_take (i := 5) (v := .tuple #[.float .f32 r, .int .i64 k]) rfl (by kernel_rfl) (by kernel_rfl) (by kernel_rfl) (fun _ _ _ h => h) (Or.inl ⟨by rfl, fun w' hSw => by go_simp⟩) h4 ?_
    refine (show wpAnyH _ _ _ _ _ _ _ (Act.put _ (some 17) _) _ from ?_)
    simp only [Act.put]
    refine wpAnyH_take (i := 6) (v := .float .f32 r) rfl (by kernel_rfl) (by kernel_rfl) (by kernel_rfl) (fun _ _ _ h => h) (Or.inl ⟨by rfl, fun w' hSw => by go_simp⟩) h4 ?_
    refine (show wpAnyH _ _ _ _ _ _ _ (Act.put _ (some 23) _) _ from ?_)
    simp only [Act.put]
    refine wpAnyH_take (i := 7) (v := .int .i64 k) rfl (by kernel_rfl) (by kernel_rfl) (by kernel_rfl) (fun _ _ _ h => h) (Or.inl ⟨by rfl, fun w' hSw => by go_simp⟩) h4 ?_
    refine (show wpAnyH _ _ _ _ _ _ _ (Act.put _ (some 24) _) _ from ?_)
    simp only [Act.put]
    refine wpAnyH_take (i := 8) (v := .float .f32 r) rfl (by kernel_rfl) (by kernel_rfl) (by kernel_rfl) (fun _ _ _ h => h) (Or.inl ⟨by rfl, fun w' hSw => by go_simp⟩) h4 ?_
    refine (show wpAnyH _ _ _ _ _ _ _ (Act.put _ (some 7) _) _ from ?_)
    simp only [Act.put]
    refine wpAnyH_take (i := 9) (v := .int .i64 k) rfl (by kernel_rfl) (by kernel_rfl) (by kernel_rfl) (fun _ _ _ h => h) (Or.inl ⟨by rfl, fun w' hSw => by go_simp⟩) h4 ?_
    refine (show wpAnyH _ _ _ _ _ _ _ (Act.put _ (some 8) _) _ from ?_)
    simp only [Act.put]
    refine wpAnyH_done (by kernel_rfl) ?_ _
    refine NoPanic.normal ?_
    go_wp2_with fail
    go_meet
    exact ⟨rfl, rfl, Lib.hid h4⟩

  case rest =>
  obtain ⟨rfl, rfl, K1⟩ := hcut
  clear K0
  go_wp2_with fail
  refine (sameFloat_refl c HO.out _).mono ?_
  rintro e w' ⟨rfl, rfl⟩
  go_wp2
  go_ret
  exact ⟨rfl, K1.out.2.2⟩
end Go.Proofs.YtjmfffgddmnkmabDoor
