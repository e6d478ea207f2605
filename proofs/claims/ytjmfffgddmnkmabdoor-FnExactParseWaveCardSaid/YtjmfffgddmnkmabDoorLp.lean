/- The law of ParseWave returns true at every text. Condition: what the library's variables hold. -/
import Derived.Test.YtjmfffgddmnkmabDoorEqV
import Derived.Test.YtjmfffgddmnkmabDoorPm
import Derived.Test.YtjmfffgddmnkmabDoorPp
namespace Go.Proofs.YtjmfffgddmnkmabDoor
open Go Go.RowKit

theorem place_fin (v : Int) (hv : -2139095039 ≤ v ∧ v ≤ 2139095039) : fin (placeBits v) = true := by
  unfold placeBits fin
  by_cases h : v < 0
  · rw [if_pos h]
    have e : Op.negFloat .f32 v.natAbs = v.natAbs ^^^ 2 ^ 31 := rfl
    rw [e, show (2147483648 : Nat) = 2 ^ 31 from rfl, Nat.xor_mod_two_pow, Nat.mod_self, Nat.xor_zero]
    exact decide_eq_true (by have := Nat.mod_le v.natAbs (2 ^ 31); omega)
  · rw [if_neg h]
    exact decide_eq_true (by have := Nat.mod_le v.natAbs 2147483648; omega)
theorem cellF_fin (ws : List (List UInt8)) (i : Nat) : (fin (cellF ws i).1 && fin (cellF ws i).2) = true := by
  unfold cellF
  cases h : cellOf (ws.getD i []) with
  | none => decide
  | some p =>
    obtain ⟨h1, h2⟩ := cell_range _ p h
    simp only [place_fin p.1 h1, place_fin p.2 h2, Bool.and_self]
theorem gf_fins (F : Nat → Nat × Nat) (hF : ∀ i, (fin (F i).1 && fin (F i).2) = true) (k : Nat) : Cells (gf F k) := by
  refine ⟨gf_size _ _, fun i hi => ?_⟩
  have h := hF i
  rw [Bool.and_eq_true] at h
  by_cases hk : i < k
  · exact ⟨_, _, h.1, h.2, by rw [gf_get, if_pos hi, if_pos hk]⟩
  · exact ⟨0, 0, by decide, by decide, by rw [gf_get, if_pos hi, if_neg hk]⟩
theorem read_cells (l : List UInt8) : Cells (cellsR (readOf l)) := by
  cases h : readOf l with
  | none =>
    show Cells zc
    rw [← gf_zero (fun _ => (0, 0))]
    exact gf_fins _ (fun _ => by decide) 0
  | some p => exact gf_fins _ (cellF_fin p.2) _

set_option maxRecDepth 100000 in
set_option maxHeartbeats 1000000 in
theorem lawPW_small (s : ByteArray) (hs : s.size ≤ 1048576) (w : World) (hw : Env w) : Calls Tryd.prog 3 #[.string s] w fun e w' => e = .returned (.bool true) ∧ Below w.heap.size w w' := by
  have hz37 := (zero_of_info info37').1
  have hzs : (cellsR (readOf s.data.toList)).size = 64 := (read_cells s.data.toList).1
  have HE := Lib.hid (eqWave_refl (sideR (readOf s.data.toList)) _ (read_cells s.data.toList))
  have HF : Hid ((Tryd.prog.info? 25).map (·.size) = some (pic (sideR (readOf s.data.toList)) (cellsR (readOf s.data.toList))).size) := Lib.hid (by rw [read_size]; exact (zero_of_info info37').2)
  have HZF : Hid ((pic 0 zc).size = (pic (sideR (readOf s.data.toList)) (cellsR (readOf s.data.toList))).size) := Lib.hid (by rw [read_size, pic_size 0 zc zc_size])
  have H1 := Lib.hid (read_one (readOf s.data.toList))
  have HS := Lib.hid (specPW_any s hs)
  have HI := Lib.hid (implPW_any s hs)
  have hcc : (codeR (readOf s.data.toList) != codeR (readOf s.data.toList)) = false := by simp
  have hlen : decide ((s.size : Int) > 1048576) = false := decide_eq_false (by omega)
  have HWE := Lib.hid hw
  generalize pic 0 zc = Z at *
  generalize pic (sideR (readOf s.data.toList)) (cellsR (readOf s.data.toList)) = F at *
  generalize codeR (readOf s.data.toList) = c at *
  clear hzs hs hw
  go_enter Tryd.func3, Tryd.ntmps3
  go_wp2_with fail
  refine (HS.out _).mono ?_
  rintro e w1 ⟨rfl, b1⟩
  have s1 := b1.size
  have B1 := Lib.hid b1
  have G1 : Hid ((w1.alloc (.cells Z 25)).heap[w1.heap.size]? = some (.cells Z 25)) := Lib.hid (h1_0 _ _)
  have HW2 : Hid (Env (w1.alloc (.cells F 25))) := Lib.hid (HWE.out.below (b1.alloc s1 _))
  clear b1
  go_wp2_with (first | fail | (refine wpList_store_row rfl 25 (.tmp 3) (.tmp 13) rfl w1.heap.size F rfl rfl 25 Z G1.out HF.out HZF.out H1.out ?_; rw [World.setRow_alloc_new]))
  refine (HI.out _ HW2.out).mono ?_
  rintro e w2 ⟨rfl, b2⟩
  have s2 := b2.size
  have g2 := b2.block w1.heap.size (by rw [size_al]; omega)
  rw [size_al] at s2
  rw [h1_0] at g2
  have B2 := Lib.hid b2
  have G2 : Hid ((w2.alloc (.cells Z 25)).heap[w2.heap.size]? = some (.cells Z 25)) := Lib.hid (h1_0 _ _)
  have G3 : Hid ((w2.alloc (.cells F 25)).heap[w2.heap.size]? = some (.cells F 25)) := Lib.hid (h1_0 _ _)
  have G4 : Hid ((w2.alloc (.cells F 25)).heap[w1.heap.size]? = some (.cells F 25)) := Lib.hid (by rw [heap_alloc_old _ _ (by omega)]; exact g2)
  clear b2 g2
  go_wp2_with (first | fail | (refine wpList_store_row rfl 25 (.tmp 5) (.tmp 18) rfl w2.heap.size F rfl rfl 25 Z G2.out HF.out HZF.out H1.out ?_; rw [World.setRow_alloc_new]) | (refine wpList_load_row rfl 25 (.tmp 5) rfl w2.heap.size rfl 25 F (0, 0) _ G3.out Tryd.underlying25 rfl HF.out ?_) | (refine wpList_load_row rfl 25 (.tmp 3) rfl w1.heap.size rfl 25 F (0, 0) _ G4.out Tryd.underlying25 rfl HF.out ?_))
  refine (HE.out _).mono ?_
  rintro e w3 ⟨rfl, b3⟩
  have B3 := Lib.hid b3
  clear b3
  go_wp2
  go_ret
  refine ⟨rfl, ?_⟩
  have x2 : Below w.heap.size w w2 := (B1.out.alloc s1 _).trans (B2.out.mono (by rw [size_al]; omega))
  exact (x2.alloc (by omega) _).trans (B3.out.mono (by rw [size_al]; omega))
theorem lawPW_any (s : ByteArray) (w : World) (hw : Env w) : Calls Tryd.prog 3 #[.string s] w fun e w' => e = .returned (.bool true) ∧ Below w.heap.size w w' := by
  by_cases hs : s.size ≤ 1048576
  · exact lawPW_small s hs w hw
  · have hlen : decide ((s.size : Int) > 1048576) = true := decide_eq_true (by omega)
    go_enter Tryd.func3, Tryd.ntmps3
    go_wp2
    go_ret
    exact ⟨rfl, Below.refl _ _⟩
end Go.Proofs.YtjmfffgddmnkmabDoor
