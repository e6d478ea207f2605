/- The draws of a cell's arguments. Condition: a code that can be read. -/
import Derived.Test.YtjmfffgddmnkmabDBa
import Derived.Test.YtjmfffgddmnkmabM39
namespace Go.Proofs.Ytjmfffgddmnkmab
open Go Go.RowKit

set_option maxRecDepth 100000 in
set_option maxHeartbeats 400000 in
theorem spoil_any (p : Nat) (w : World) (hs : Src p w) : Calls Try.prog 81 #[.pointer (some ⟨p, 0, none⟩)] w (SomeD p w) := by
  have hz37 := (zero_of_info info37').1
  have HS37 := Lib.hid (zero_of_info info37').2
  have HZ37 : Hid ((pic 0 zc).size = 65) := Lib.hid (pic_size 0 zc zc_size)
  have HZW := Lib.hid (wav_zc 0)
  generalize pic 0 zc = Z at *
  have HSS := Lib.hid hs
  clear hs
  go_enter Try.func81, Try.ntmps81
  go_wp2_with fail
  refine (draw_any p _ (HSS.out.alloc _)).mono ?_
  rintro e w1 ⟨s, C, rfl, hs, hc, s1, o1⟩
  have hp := HSS.out.lt
  have g1 : w1.heap[w.heap.size]? = some (.cells Z 30 (0, 0)) := by rw [o1.block _ (by rw [size_al]; omega) (by omega)]; exact h1_0 _ _
  have S1 := Lib.hid s1
  have O1 := Lib.hid (((Own.refl p w).alloc _).trans o1)
  have G1 := Lib.hid g1
  have HC := Lib.hid hc
  clear s1 o1 g1 hc
  go_wp2_with fail
  refine (bad_any p s C HC.out hs.1 hs.2 _ S1.out).mono ?_
  rintro e w2 ⟨n, D, rfl, hn, hd, s2, o2⟩
  have hl : w.heap.size < w1.heap.size := (Array.getElem?_eq_some_iff.1 G1.out).1
  have GZ := Lib.hid (show w2.heap[w.heap.size]? = some (.cells Z 30 (0, 0)) by rw [o2.block _ hl (by omega)]; exact G1.out)
  have S2 := Lib.hid s2
  have O2 := Lib.hid (O1.out.trans o2)
  have HD1 := Lib.hid (wav_one hd)
  have HDI : Hid ((Try.prog.info? 30).map (·.size) = some D.size) := Lib.hid (by rw [hd.1]; exact HS37.out)
  have HZD : Hid (Z.size = D.size) := Lib.hid (by rw [hd.1]; exact HZ37.out)
  have HD := Lib.hid hd
  clear s2 o2 hd hz37
  go_wp2_with (refine wpList_store_row rfl 30 (.tmp 2) (.tmp 6) rfl w.heap.size D rfl rfl 30 Z GZ.out HDI.out HZD.out HD1.out ?_)
  refine bodyPost_ret (v := .agg D) (results_cell_row (fn := Try.f81) (p := 2) (ty := 30) rfl _ _ w.heap.size 30 D (0, 0) _ rfl (setRow_heap _ _ _ _ _ _ GZ.out) Try.underlying30 rfl HDI.out) rfl ⟨n, D, rfl, hn, HD.out, ?_, ?_⟩
  · exact S2.out.setRow GZ.out (by omega) HZW.out _
  · exact O2.out.setRow _ _ (Nat.le_refl _)

end Go.Proofs.Ytjmfffgddmnkmab
