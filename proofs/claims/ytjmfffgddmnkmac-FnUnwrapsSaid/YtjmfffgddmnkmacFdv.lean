/- A mask that was drawn is spoilt: some wave. Condition: a source, a side. -/
import Derived.Test.YtjmfffgddmnkmacM38
import Derived.Deep.CutBlock
import Derived.Deep.DeepCutAuto
import Derived.Deep.RegionHeld3
namespace Go.Proofs.Ytjmfffgddmnkmac
open Go Go.RowKit

set_option maxRecDepth 100000 in
set_option maxHeartbeats 1000000 in
theorem spoilM_any (p : Nat) (n : Int) (D : Array Value) (hD : Wav n D) (w : World) (hs : Src p w) : Calls Try.prog 53 #[.pointer (some ⟨p, 0, none⟩), .agg D] w (WavD p n w) := by
  have hz37 := (zero_of_info info37').1
  have HS37 := Lib.hid (zero_of_info info37').2
  have HZ37 : Hid ((pic 0 zc).size = 65) := Lib.hid (pic_size 0 zc zc_size)
  have HZ1 := Lib.hid (zc_one 0)
  have HZW := Lib.hid (wav_zc 0)
  have hne := pic_ne
  generalize pic 0 zc = Z at *
  have HZI : Hid ((Try.prog.info? 33).map (·.size) = some Z.size) := Lib.hid (by rw [HZ37.out]; exact HS37.out)
  have HSS := Lib.hid hs
  have hp := HSS.out.lt
  have P0 : w.heap.size ≠ p := by omega
  have L0 : Hid (Lies p n w w.heap.size ((w.alloc (.cells D 33)).alloc (.cells Z 33))) := Lib.hid ⟨D, h2_0 _ _ _, hD, (HSS.out.alloc _).alloc _, ((Trn.refl p w).alloc _).alloc _⟩
  have Z0 : Hid (((w.alloc (.cells D 33)).alloc (.cells Z 33)).heap[w.heap.size + 1]? = some (.cells Z 33 (0, 0))) := Lib.hid (h2_1 _ _ _)
  have HEND : Hid (∀ (wr : World), Lies p n w w.heap.size wr → wr.heap[w.heap.size + 1]? = some (.cells Z 33 (0, 0)) → ∃ C, wr.heap[w.heap.size]? = some (.cells C 33 (0, 0)) ∧ Wav n C ∧ Src p wr ∧ Trn p w wr) := Lib.hid fun wr h _ => h
  clear hs hD
  go_enter Try.func53, Try.ntmps53
  go_upto_region 1 with fail
  generalize (w.alloc (.cells D 33)).alloc (.cells Z 33) = v at *
  go_wp2_with fail
  refine (next_any p 20 _ (L0.out.elim fun _ h => h.2.2.1)).mono ?_
  rintro e w1 ⟨r, rfl, r0, r1, s1, o1⟩
  have L1 := Lib.hid (Lies.own L0.out P0 s1 o1)
  have Z1 : Hid (w1.heap[w.heap.size + 1]? = some (.cells Z 33 (0, 0))) := Lib.hid (by rw [o1.block _ (Array.getElem?_eq_some_iff.1 Z0.out).1 (by omega)]; exact Z0.out)
  clear s1 o1 L0 Z0
  go_upto_if 7 with fail
  go_cut [] (fun wx => Hid (Lies p n w w.heap.size wx) ∧ Hid (wx.heap[w.heap.size + 1]? = some (.cells Z 33 (0, 0))))
  case first =>
    by_cases hr : r = 0
    · subst hr
      go_wp2_with fail
      refine (next_any p 64 _ (L1.out.elim fun _ h => h.2.2.1)).mono ?_
      rintro e w2 ⟨i, rfl, i0, i1, s2, o2⟩
      have L2 := Lib.hid (Lies.own L1.out P0 s2 o2)
      have Z2 : Hid (w2.heap[w.heap.size + 1]? = some (.cells Z 33 (0, 0))) := Lib.hid (by rw [o2.block _ (Array.getElem?_eq_some_iff.1 Z1.out).1 (by omega)]; exact Z1.out)
      clear s2 o2 L1 Z1
      obtain ⟨k, rfl⟩ : ∃ k : Nat, i = k := ⟨i.toNat, by omega⟩
      have hk : k < 64 := by omega
      go_wp2_with fail
      refine (pick_lit p [2, -1, 1] w2 (L2.out.elim fun _ h => h.2.2.1) (by simp) (by simp)).mono ?_
      rintro e w3 ⟨a, ha, rfl, s3, o3⟩
      have L3 := Lib.hid (Lies.own L2.out P0 s3 o3)
      have Z3 : Hid (w3.heap[w.heap.size + 1]? = some (.cells Z 33 (0, 0))) := Lib.hid (by rw [o3.block _ (Array.getElem?_eq_some_iff.1 Z2.out).1 (by omega)]; exact Z2.out)
      clear s3 o3 L2 Z2 ha
      go_wp2_with fail
      refine (next_any p 2 _ (L3.out.elim fun _ h => h.2.2.1)).mono ?_
      rintro e w4 ⟨q, rfl, q0, q1, s4, o4⟩
      have L4 := Lib.hid (Lies.own L3.out P0 s4 o4)
      have Z4 : Hid (w4.heap[w.heap.size + 1]? = some (.cells Z 33 (0, 0))) := Lib.hid (by rw [o4.block _ (Array.getElem?_eq_some_iff.1 Z3.out).1 (by omega)]; exact Z3.out)
      clear s4 o4 L3 Z3
      obtain ⟨cx, cy, hcell⟩ := L4.out.cell k hk
      have hfree := L4.out.free k
      go_wp2_with fail
      go_meet
      exact ⟨Lib.hid (L4.out.set P0 (Nat.le_refl _) k _ _), Lib.hid (by rw [heap_setCell_other _ _ _ _ (by show w.heap.size + 1 ≠ w.heap.size; omega)]; exact Z4.out)⟩
    · have hr' : (r == 0) = false := by simp [hr]
      go_wp2_with fail
      go_meet
      exact ⟨L1, Z1⟩
  case rest =>
    obtain ⟨L5, Z5⟩ := hcut
    obtain ⟨C, hgC, hc, sC, oC⟩ := L5.out
    have GC := Lib.hid hgC
    have HC1 := Lib.hid (wav_one hc)
    have HCI : Hid ((Try.prog.info? 33).map (·.size) = some C.size) := Lib.hid (by rw [hc.1]; exact HS37.out)
    have HZC : Hid (Z.size = C.size) := Lib.hid (by rw [hc.1]; exact HZ37.out)
    have SC := Lib.hid sC
    have OC := Lib.hid oC
    have HC := Lib.hid hc
    clear hgC hc sC oC hz37 L1 Z1 L5 HEND
    go_wp2_with (first | (refine wpList_load_row rfl 33 (.tmp 3) rfl w.heap.size rfl 33 C (0, 0) _ GC.out Try.underlying33 rfl HCI.out ?_) | (refine wpList_store_row rfl 33 (.tmp 4) (.tmp 20) rfl (w.heap.size + 1) C rfl rfl 33 Z Z5.out HCI.out HZC.out HC1.out ?_))
    refine bodyPost_ret (v := .agg C) (results_cell_row (fn := Try.f53) (p := 4) (ty := 33) rfl _ _ (w.heap.size + 1) 33 C (0, 0) _ rfl (setRow_heap _ _ _ _ _ _ Z5.out) Try.underlying33 rfl HCI.out) rfl ⟨C, rfl, HC.out, ?_, ?_⟩
    · exact SC.out.setRow Z5.out (by omega) HZW.out _
    · exact OC.out.setRow _ _ (by omega)

end Go.Proofs.Ytjmfffgddmnkmac
