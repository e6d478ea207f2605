/- The draws of waves, and of what is none. Condition: a source. -/
import Derived.Test.YtjmfffgddmnkmabDOf
import Derived.Deep.CutBlock
import Derived.Deep.DeepCutAuto
namespace Go.Proofs.Ytjmfffgddmnkmab
open Go Go.RowKit

/-- some wave, or what has a wave's cells, was drawn -/
def SomeD (p : Nat) (w : World) (e : Ending) (w' : World) : Prop := ∃ s D, e = .returned (.agg D) ∧ (-1 ≤ s ∧ s ≤ 16) ∧ Wav s D ∧ Src p w' ∧ Own p w w'

set_option maxRecDepth 100000 in
set_option maxHeartbeats 400000 in
theorem draw_any (p : Nat) (w : World) (hs : Src p w) : Calls Try.prog 122 #[.pointer (some ⟨p, 0, none⟩)] w (SomeD p w) := by
  have hz37 := (zero_of_info info37').1
  have HS37 := Lib.hid (zero_of_info info37').2
  have HZ37 : Hid ((pic 0 zc).size = 65) := Lib.hid (pic_size 0 zc zc_size)
  have HZW := Lib.hid (wav_zc 0)
  generalize pic 0 zc = Z at *
  have HSS := Lib.hid hs
  clear hs
  go_enter Try.func122, Try.ntmps122
  go_wp2_with fail
  refine (drawSide_any p _ (HSS.out.alloc _)).mono ?_
  rintro e w1 ⟨n, rfl, hn, s1, o1⟩
  have hp := HSS.out.lt
  have g1 : w1.heap[w.heap.size]? = some (.cells Z 30 (0, 0)) := by rw [o1.block _ (by rw [size_al]; omega) (by omega)]; exact h1_0 _ _
  have S1 := Lib.hid s1
  have O1 := Lib.hid (((Own.refl p w).alloc _).trans o1)
  have G1 := Lib.hid g1
  clear s1 o1 g1
  go_wp2_with fail
  refine (drawOf_any p n hn _ S1.out).mono ?_
  rintro e w2 ⟨D, rfl, hd, s2, o2⟩
  have hl : w.heap.size < w1.heap.size := (Array.getElem?_eq_some_iff.1 G1.out).1
  have GZ := Lib.hid (show w2.heap[w.heap.size]? = some (.cells Z 30 (0, 0)) by rw [o2.block _ hl (by omega)]; exact G1.out)
  have S2 := Lib.hid s2
  have O2 := Lib.hid (O1.out.trans o2)
  have HD1 := Lib.hid (wav_one hd)
  have HDI : Hid ((Try.prog.info? 30).map (·.size) = some D.size) := Lib.hid (by rw [hd.1]; exact HS37.out)
  have HZD : Hid (Z.size = D.size) := Lib.hid (by rw [hd.1]; exact HZ37.out)
  have HD := Lib.hid hd
  clear s2 o2 hd hz37
  go_wp2_with (refine wpList_store_row rfl 30 (.tmp 2) (.tmp 6) rfl w.heap.size D rfl rfl 30 Z GZ.out HDI.out HZD.out HD1.out ?_)
  refine bodyPost_ret (v := .agg D) (results_cell_row (fn := Try.f122) (p := 2) (ty := 30) rfl _ _ w.heap.size 30 D (0, 0) _ rfl (setRow_heap _ _ _ _ _ _ GZ.out) Try.underlying30 rfl HDI.out) rfl ⟨n, D, rfl, by omega, HD.out, ?_, ?_⟩
  · exact S2.out.setRow GZ.out (by omega) HZW.out _
  · exact O2.out.setRow _ _ (Nat.le_refl _)

theorem Lies.side {p g : Nat} {s t : Int} {w a : World} (h : Lies p s w g a) (hne : g ≠ p) (hn : w.heap.size ≤ g) : Lies p t w g (a.setCell ⟨g, 0, none⟩ (.int .i64 t)) := by
  obtain ⟨D, hg, hd, s0, o0⟩ := h
  exact ⟨D.setIfInBounds 0 (.int .i64 t), heap_setCell_same _ _ _ _ _ _ hg, wav_side hd, s0.setOther hg hne hd, o0.setNew g _ _ hn⟩
theorem Lies.cell0 {p g : Nat} {s : Int} {w a : World} (h : Lies p s w g a) : a.cell? ⟨g, 0, none⟩ = some (.int .i64 s) := by
  obtain ⟨D, hg, hd, _⟩ := h
  rw [cell_of_row _ _ _ _ _ _ hg]; exact hd.2.1
theorem Lies.free0 {p g : Nat} {s : Int} {w a : World} (h : Lies p s w g a) : a.frozen? ⟨g, 0, none⟩ = false := by
  obtain ⟨D, hg, _⟩ := h
  exact frozen_of_row _ _ _ _ _ hg

set_option maxRecDepth 100000 in
set_option maxHeartbeats 400000 in
theorem bad_any (p : Nat) (s : Int) (D : Array Value) (hD : Wav s D) (h0 : -1 ≤ s) (h1 : s ≤ 16) (w : World) (hs : Src p w) : Calls Try.prog 121 #[.pointer (some ⟨p, 0, none⟩), .agg D] w (SomeD p w) := by
  have hz37 := (zero_of_info info37').1
  have HS37 := Lib.hid (zero_of_info info37').2
  have HZ37 : Hid ((pic 0 zc).size = 65) := Lib.hid (pic_size 0 zc zc_size)
  have HZW := Lib.hid (wav_zc 0)
  generalize pic 0 zc = Z at *
  have HSS := Lib.hid hs
  have HD := Lib.hid hD
  clear hs hD
  go_enter Try.func121, Try.ntmps121
  go_wp2_with fail
  have hp := HSS.out.lt
  refine (next_any p 40 _ ((HSS.out.alloc _).alloc _)).mono ?_
  rintro e w1 ⟨r, rfl, r0, r1, s1, o1⟩
  have g0 : w1.heap[w.heap.size]? = some (.cells D 30 (0, 0)) := by rw [o1.block _ (by rw [size_al, size_al]; omega) (by omega)]; exact h2_0 _ _ _
  have g1 : w1.heap[w.heap.size + 1]? = some (.cells Z 30 (0, 0)) := by rw [o1.block _ (by rw [size_al, size_al]; omega) (by omega)]; exact h2_1 _ _ _
  have L : Hid (Lies p s w w.heap.size w1) := Lib.hid ⟨D, g0, HD.out, s1, (((Own.refl p w).alloc _).alloc _).trans o1⟩
  have Z0 := Lib.hid g1
  have P0 := Lib.hid (show w.heap.size ≠ p by omega)
  have P1 := Lib.hid (show w.heap.size + 1 ≠ p by omega)
  clear s1 o1 g0 g1
  generalize hgg : w.heap.size = g at *
  go_upto_block 0 with fail
  go_cut [] (fun wx => ∃ t, (-1 ≤ t ∧ t ≤ 16) ∧ Hid (Lies p t w g wx) ∧ Hid (wx.heap[g + 1]? = some (.cells Z 30 (0, 0))))
  case first =>
    by_cases h0 : r = 0
    · subst h0
      have c0 := L.out.cell0
      go_wp2_with fail
      refine (pick_lit p [0, 3, 16, -1, s.tdiv 2] _ (L.out.elim fun _ h => h.2.2.1) (by simp) (by simp)).mono ?_
      rintro e9 w9 ⟨t, ht, rfl, s9, o9⟩
      have z9 := o9.block _ (Array.getElem?_eq_some_iff.1 Z0.out).1 P1.out
      rw [Z0.out] at z9
      replace Z0 := Lib.hid z9
      replace L := Lib.hid (Lies.own L.out P0.out s9 o9)
      clear s9 o9 z9
      have c1 := L.out.cell0
      have f1 := L.out.free0
      have hs2 : -1 ≤ s.tdiv 2 ∧ s.tdiv 2 ≤ 16 := by
        rcases Int.le_total 0 s with h | h
        · rw [Int.tdiv_eq_ediv_of_nonneg h]; omega
        · obtain rfl | rfl : s = -1 ∨ s = 0 := by omega
          · decide
          · decide
      have ht' : -1 ≤ t ∧ t ≤ 16 := by simp at ht; omega
      go_wp2_with fail
      go_meet
      exact ⟨t, ht', Lib.hid (L.out.side P0.out (by omega)), Lib.hid (by rw [heap_setCell_other _ _ _ _ (by show g + 1 ≠ g; omega)]; exact Z0.out)⟩
    by_cases h1 : r = 1
    · subst h1
      go_wp2_with fail
      refine (next_any p 64 _ (L.out.elim fun _ h => h.2.2.1)).mono ?_
      rintro e9 w9 ⟨q, rfl, q0, q1, s9, o9⟩
      have z9 := o9.block _ (Array.getElem?_eq_some_iff.1 Z0.out).1 P1.out
      rw [Z0.out] at z9
      replace Z0 := Lib.hid z9
      replace L := Lib.hid (Lies.own L.out P0.out s9 o9)
      clear s9 o9 z9
      obtain ⟨k, rfl⟩ : ∃ k : Nat, q = k := ⟨q.toNat, by omega⟩
      go_wp2_with fail
      refine (float_any 2139095039 _ (by omega) (by omega)).mono ?_
      rintro e2 w2 ⟨y, rfl, b2⟩
      have s9 := (Src.below (L.out.elim fun _ h => h.2.2.1) b2)
      have o9 := Below.toOwn b2 p
      have z9 := o9.block _ (Array.getElem?_eq_some_iff.1 Z0.out).1 P1.out
      rw [Z0.out] at z9
      replace Z0 := Lib.hid z9
      replace L := Lib.hid (Lies.own L.out P0.out s9 o9)
      clear s9 o9 z9 b2
      go_wp2_with fail
      refine upon_gives (gives_arith _ _ (by decide) _ _ _ _ _) fun z w3 hl => ?_
      have z9 := Z0.out
      rw [← hl.heap] at z9
      replace Z0 := Lib.hid z9
      replace L := Lib.hid (Lies.own L.out P0.out (hl.src (L.out.elim fun _ h => h.2.2.1)) (hl.own p))
      clear hl z9
      obtain ⟨cx, cy, hcell⟩ := L.out.cell k (by omega)
      have hfree := L.out.free k
      go_wp2_with fail
      go_meet
      exact ⟨s, ⟨by omega, by omega⟩, Lib.hid (L.out.set P0.out (by omega) k _ _), Lib.hid (by rw [heap_setCell_other _ _ _ _ (by show g + 1 ≠ g; omega)]; exact Z0.out)⟩
    by_cases h2 : r = 2
    · subst h2
      obtain ⟨cx, cy, hcell⟩ := L.out.cell 63 (by omega)
      have hfree := L.out.free 63
      go_wp2_with fail
      go_meet
      exact ⟨s, ⟨by omega, by omega⟩, Lib.hid (L.out.set P0.out (by omega) 63 _ _), Lib.hid (by rw [heap_setCell_other _ _ _ _ (by show g + 1 ≠ g; omega)]; exact Z0.out)⟩
    · have h0' : (r == 0) = false := by simp [h0]
      have h1' : (r == 1) = false := by simp [h1]
      have h2' : (r == 2) = false := by simp [h2]
      go_wp2_with fail
      go_meet
      exact ⟨s, ⟨by omega, by omega⟩, L, Z0⟩
  case rest =>
    obtain ⟨t, ht, L, GZ⟩ := hcut
    obtain ⟨DD, hgD, hd, sD, oD⟩ := L.out
    have GD := Lib.hid hgD
    have HD1 := Lib.hid (wav_one hd)
    have HDI : Hid ((Try.prog.info? 30).map (·.size) = some DD.size) := Lib.hid (by rw [hd.1]; exact HS37.out)
    have HZD : Hid (Z.size = DD.size) := Lib.hid (by rw [hd.1]; exact HZ37.out)
    have SD := Lib.hid sD
    have OD := Lib.hid oD
    have HDD := Lib.hid hd
    clear hgD hd sD oD hz37
    go_wp2_with (first | (refine wpList_load_row rfl 30 (.tmp 3) rfl g rfl 30 DD (0, 0) _ GD.out Try.underlying30 rfl HDI.out ?_) | (refine wpList_store_row rfl 30 (.tmp 4) (.tmp 29) rfl (g + 1) DD rfl rfl 30 Z GZ.out HDI.out HZD.out HD1.out ?_))
    refine bodyPost_ret (v := .agg DD) (results_cell_row (fn := Try.f121) (p := 4) (ty := 30) rfl _ _ (g + 1) 30 DD (0, 0) _ rfl (setRow_heap _ _ _ _ _ _ GZ.out) Try.underlying30 rfl HDI.out) rfl ⟨t, DD, rfl, ht, HDD.out, ?_, ?_⟩
    · exact SD.out.setRow GZ.out P1.out HZW.out _
    · exact OD.out.setRow _ _ (by omega)
end Go.Proofs.Ytjmfffgddmnkmab
