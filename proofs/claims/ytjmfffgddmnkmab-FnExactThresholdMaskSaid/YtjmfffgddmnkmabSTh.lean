/- The model's threshold masks. Condition: 64 floats. -/
import Derived.Test.YtjmfffgddmnkmabS3
import Derived.Test.YtjmfffgddmnkmabLawP
namespace Go.Proofs.Ytjmfffgddmnkmab
open Go Go.RowKit

/-- at least -/
def geF (x t : Nat) : Bool := FloatKind.f32.format.order x t == some .gt || FloatKind.f32.format.order x t == some .eq
/-- the cell at a place -/
def cellTh (zs : Array Value) (t i : Nat) : Nat × Nat := mark (geF (bitsAt zs i) t)
theorem cellTh_fin (zs : Array Value) (t : Nat) : ∀ i, (fin (cellTh zs t i).1 && fin (cellTh zs t i).2) = true := fun _ => mark_fin _
theorem cellTh_at (zs : Array Value) (t k x : Nat) (h : zs[k]? = some (.float .f32 x)) : cellTh zs t k = mark (geF x t) := by
  unfold cellTh; rw [bitsAt_of zs k x h]
def ansTh (s : Int) (zs : Array Value) (t : Nat) : Int × Array Value × Int := if shown s zs && fin t then (s, gf (cellTh zs t) (s.toNat * s.toNat), 0) else (0, zc, 1)
theorem ansTh_no (s : Int) (zs : Array Value) (t : Nat) (h : (shown s zs && fin t) = false) : ansTh s zs t = (0, zc, 1) := by unfold ansTh; rw [h]; rfl
theorem ansTh_yes (s : Int) (zs : Array Value) (t : Nat) (h : (shown s zs && fin t) = true) : ansTh s zs t = (s, gf (cellTh zs t) (s.toNat * s.toNat), 0) := by unfold ansTh; rw [h]; rfl
theorem ansTh_cells (s : Int) (zs : Array Value) (t : Nat) : Cells (ansTh s zs t).2.1 := by
  unfold ansTh; split
  · exact gf_cells _ (cellTh_fin zs t) _
  · exact zc_cells3
theorem ansTh_one (s : Int) (zs : Array Value) (t : Nat) : (pic (ansTh s zs t).1 (ansTh s zs t).2.1).all (·.oneCell') = true := by
  unfold ansTh; split
  · exact gf_wav_one _ _ _
  · exact zc_one 0
theorem shown_side (s : Int) (zs : Array Value) (h : shown s zs = true) : side s = true ∧ ∃ n : Nat, s = n := by
  unfold shown at h
  rw [Bool.and_eq_true] at h
  refine ⟨h.1, s.toNat, ?_⟩
  rcases side_yes s h.1 with rfl | rfl | rfl | rfl <;> rfl

set_option maxRecDepth 100000 in
set_option maxHeartbeats 800000 in
theorem specTh_no0 (s : Int) (zs : Array Value) (t : Nat) (hz : Floats zs) (h0 : shown s zs = false) (w : World) : Calls Try.prog 42 #[.agg (pic s zs), .float .f32 t] w fun e w' => e = .returned (.tuple #[.agg (pic 0 zc), .int .i64 1]) ∧ Below w.heap.size w w' := by
  have hz37 := (zero_of_info info37').1
  have HS37 := Lib.hid (zero_of_info info37').2
  have HZ37 : Hid ((pic 0 zc).size = 65) := Lib.hid (pic_size 0 zc zc_size)
  have HZ1 := Lib.hid (zc_one 0)
  have hne := pic_ne
  have HS := Lib.hid (size32 s zs hz)
  have hc := shown_any s zs hz
  rw [h0] at hc
  have HC := Lib.hid hc
  generalize pic s zs = cs at *
  generalize pic 0 zc = Z at *
  have HZI : Hid ((Try.prog.info? 30).map (·.size) = some Z.size) := Lib.hid (by rw [HZ37.out]; exact HS37.out)
  clear hz h0 hc
  go_enter Try.func42, Try.ntmps42
  go_wp2_with (first | fail | (refine wpList_load_row rfl 50 (.tmp 2) rfl w.heap.size rfl 50 cs (0, 0) _ (h2_0 _ _ _) Try.underlying50 rfl HS.out ?_))
  refine (HC.out _).mono ?_
  rintro e w1 ⟨rfl, b1⟩
  have G1 : Hid (w1.heap[w.heap.size + 1]? = some (.cells Z 30 (0, 0))) := Lib.hid (by rw [b1.block _ (by rw [size_al, size_al]; omega)]; exact h2_1 _ _ _)
  have B1 : Hid (Below w.heap.size w w1) := Lib.hid ((below_al2 w _ _).trans (b1.mono (by rw [size_al, size_al]; omega)))
  clear b1 HC
  go_wp2_with (first | fail | (refine wpList_store_row rfl 30 (.tmp 4) (.tmp 16) rfl (w.heap.size + 1) Z rfl rfl 30 Z G1.out HZI.out rfl HZ1.out ?_))
  refine bodyPost_ret (v := .tuple #[.agg Z, .int .i64 1]) (results_row_tmp (fn := Try.f42) (p := 4) (u := 5) (ty := 30) rfl _ _ (w.heap.size + 1) 30 Z (0, 0) _ rfl (setRow_heap _ _ _ _ _ _ G1.out) Try.underlying30 rfl HZI.out) rfl ⟨rfl, ?_⟩
  exact below_setRow B1.out (by omega) _

set_option maxRecDepth 100000 in
set_option maxHeartbeats 800000 in
theorem specTh_no1 (s : Int) (zs : Array Value) (t : Nat) (hz : Floats zs) (h0 : shown s zs = true) (hf : fin t = false) (w : World) : Calls Try.prog 42 #[.agg (pic s zs), .float .f32 t] w fun e w' => e = .returned (.tuple #[.agg (pic 0 zc), .int .i64 1]) ∧ Below w.heap.size w w' := by
  have hz37 := (zero_of_info info37').1
  have HS37 := Lib.hid (zero_of_info info37').2
  have HZ37 : Hid ((pic 0 zc).size = 65) := Lib.hid (pic_size 0 zc zc_size)
  have HZ1 := Lib.hid (zc_one 0)
  have hne := pic_ne
  have HS := Lib.hid (size32 s zs hz)
  have hc := shown_any s zs hz
  rw [h0] at hc
  have HC := Lib.hid hc
  generalize pic s zs = cs at *
  generalize pic 0 zc = Z at *
  have HZI : Hid ((Try.prog.info? 30).map (·.size) = some Z.size) := Lib.hid (by rw [HZ37.out]; exact HS37.out)
  clear hz h0 hc
  go_enter Try.func42, Try.ntmps42
  go_wp2_with (first | fail | (refine wpList_load_row rfl 50 (.tmp 2) rfl w.heap.size rfl 50 cs (0, 0) _ (h2_0 _ _ _) Try.underlying50 rfl HS.out ?_))
  refine (HC.out _).mono ?_
  rintro e w1 ⟨rfl, b1⟩
  have G1 : Hid (w1.heap[w.heap.size + 1]? = some (.cells Z 30 (0, 0))) := Lib.hid (by rw [b1.block _ (by rw [size_al, size_al]; omega)]; exact h2_1 _ _ _)
  have B1 : Hid (Below w.heap.size w w1) := Lib.hid ((below_al2 w _ _).trans (b1.mono (by rw [size_al, size_al]; omega)))
  clear b1 HC
  go_wp2_with fail
  refine (fine_any _ _).mono ?_
  rw [hf]
  rintro e w' ⟨rfl, n', rfl⟩
  go_wp2_with (first | fail | (refine wpList_store_row rfl 30 (.tmp 4) (.tmp 16) rfl (w.heap.size + 1) Z rfl rfl 30 Z G1.out HZI.out rfl HZ1.out ?_))
  refine bodyPost_ret (v := .tuple #[.agg Z, .int .i64 1]) (results_row_tmp (fn := Try.f42) (p := 4) (u := 5) (ty := 30) rfl _ _ (w.heap.size + 1) 30 Z (0, 0) _ rfl (setRow_heap _ _ _ _ _ _ G1.out) Try.underlying30 rfl HZI.out) rfl ⟨rfl, ?_⟩
  exact below_setRow (below_drewN B1.out _) (by omega) _

set_option maxRecDepth 100000 in
set_option maxHeartbeats 2000000 in
theorem specTh_yes (s : Nat) (zs : Array Value) (t : Nat) (hz : Floats zs) (hs : side s = true) (h0 : shown s zs = true) (hf : fin t = true) (w : World) : Calls Try.prog 42 #[.agg (pic s zs), .float .f32 t] w fun e w' => e = .returned (.tuple #[.agg (pic s (gf (cellTh zs t) (s * s))), .int .i64 0]) ∧ Below w.heap.size w w' := by
  have hz37 := (zero_of_info info37').1
  have HS37 := Lib.hid (zero_of_info info37').2
  have HZ37 : Hid ((pic 0 zc).size = 65) := Lib.hid (pic_size 0 zc zc_size)
  have HE37 : Hid ((pic s zc).size = 65) := Lib.hid (pic_size s zc zc_size)
  have HE1 : Hid ((pic s zc).all (·.oneCell') = true) := Lib.hid (zc_one s)
  have HEI : Hid ((Try.prog.info? 30).map (·.size) = some (pic s zc).size) := Lib.hid (by rw [HE37.out]; exact HS37.out)
  have HZE : Hid ((pic 0 zc).size = (pic s zc).size) := Lib.hid (by rw [HZ37.out, HE37.out])
  have HE := Lib.hid (empty_any s)
  have hne := pic_ne
  have HFW : Hid (FinW s (pic s (gf (cellTh zs t) (s * s)))) := Lib.hid (gf_fin s _ (cellTh_fin zs t) (s * s))
  have HFI : Hid ((Try.prog.info? 30).map (·.size) = some (pic s (gf (cellTh zs t) (s * s))).size) := Lib.hid (by rw [HFW.out.1]; exact HS37.out)
  have HZF : Hid ((pic 0 zc).size = (pic s (gf (cellTh zs t) (s * s))).size) := Lib.hid (by rw [HFW.out.1]; exact HZ37.out)
  have HF1 := Lib.hid (finW_one HFW.out)
  have HS := Lib.hid (size32 s zs hz)
  have hc := shown_any s zs hz
  rw [h0] at hc
  have HC := Lib.hid hc
  have HP0 := Lib.hid (pic_zero s zs)
  have HP := Lib.hid (pic_succ s zs)
  have HZS := Lib.hid hz
  have HSS : Hid (s * s ≤ 64) := Lib.hid (sq_le s hs)
  have hs8 : 1 ≤ s ∧ s ≤ 8 := by rcases side_nat s hs with rfl | rfl | rfl | rfl <;> omega
  have HFF : Hid (∀ k x, zs[k]? = some (.float .f32 x) → cellTh zs t k = mark (geF x t)) := Lib.hid fun k x h => cellTh_at zs t k x h
  generalize cellTh zs t = F at *
  generalize pic s zs = cs at *
  obtain ⟨E, hE⟩ : ∃ E, E = pic s zc := ⟨_, rfl⟩
  rw [← hE] at HE37 HE1 HEI HZE HE
  have HEE := Lib.hid hE
  generalize pic 0 zc = Z at *
  clear hE hz h0 hc
  have hw0 : IntKind.i64.wrap ((s : Int) * (s : Int)) = ((s * s : Nat) : Int) := by rw [← Int.natCast_mul]; exact IntWalk.i64_in _ (by have := HSS.out; omega)
  go_enter Try.func42, Try.ntmps42
  go_wp2_with (first | fail | (refine wpList_load_row rfl 50 (.tmp 2) rfl w.heap.size rfl 50 cs (0, 0) _ (h2_0 _ _ _) Try.underlying50 rfl HS.out ?_))
  refine (HC.out _).mono ?_
  rintro e w1 ⟨rfl, b1⟩
  have G1 : Hid (w1.heap[w.heap.size + 1]? = some (.cells Z 30 (0, 0))) := Lib.hid (by rw [b1.block _ (by rw [size_al, size_al]; omega)]; exact h2_1 _ _ _)
  have P1 : Hid (w1.heap[w.heap.size]? = some (.cells cs 50 (0, 0))) := Lib.hid (by rw [b1.block _ (by rw [size_al, size_al]; omega)]; exact h2_0 _ _ _)
  have B1 : Hid (Below w.heap.size w w1) := Lib.hid ((below_al2 w _ _).trans (b1.mono (by rw [size_al, size_al]; omega)))
  clear b1 HC
  go_wp2_with fail
  refine (fine_any _ _).mono ?_
  rw [hf]
  rintro e w' ⟨rfl, n', rfl⟩
  have G2 : Hid ((w1.drewN n').heap[w.heap.size + 1]? = some (.cells Z 30 (0, 0))) := G1
  have P2 : Hid ((w1.drewN n').heap[w.heap.size]? = some (.cells cs 50 (0, 0))) := P1
  have B2 : Hid (Below w.heap.size w (w1.drewN n')) := Lib.hid (below_drewN B1.out _)
  clear G1 P1 B1 hf
  generalize w1.drewN n' = v at *
  have hp0 : v.cell? ⟨w.heap.size, 0, none⟩ = some (.int .i64 s) := by rw [cell_of_row _ _ _ _ _ _ P2.out]; exact HP0.out
  go_wp2_with fail
  refine (HE.out _).mono ?_
  rintro e w' ⟨rfl, rfl⟩
  have hlt := (Array.getElem?_eq_some_iff.1 G2.out).1
  have K0 : Hid (((v.alloc (.cells E 30)).alloc (.cells Z 30)).heap[v.heap.size + 1]? = some (.cells Z 30 (0, 0))) := Lib.hid (h2_1 _ _ _)
  go_wp2_with (first | fail | (refine wpList_store_row rfl 30 (.tmp 6) (.tmp 19) rfl (v.heap.size + 1) E rfl rfl 30 Z K0.out HEI.out HZE.out HE1.out ?_))
  have GG : Hid ((((v.alloc (.cells E 30)).alloc (.cells Z 30)).setRow (v.heap.size + 1) E).heap[v.heap.size + 1]? = some (.cells E 30 (0, 0))) := Lib.hid (setRow_heap _ _ _ _ _ _ K0.out)
  have GZ : Hid ((((v.alloc (.cells E 30)).alloc (.cells Z 30)).setRow (v.heap.size + 1) E).heap[w.heap.size + 1]? = some (.cells Z 30 (0, 0))) := Lib.hid (by rw [heap_setRow_other _ _ _ _ (by omega), heap_alloc_old _ _ (by rw [size_al]; omega), heap_alloc_old _ _ hlt]; exact G2.out)
  have GP : Hid ((((v.alloc (.cells E 30)).alloc (.cells Z 30)).setRow (v.heap.size + 1) E).heap[w.heap.size]? = some (.cells cs 50 (0, 0))) := Lib.hid (by rw [heap_setRow_other _ _ _ _ (by omega), heap_alloc_old _ _ (by rw [size_al]; omega), heap_alloc_old _ _ (by omega)]; exact P2.out)
  have BB : Hid (Below w.heap.size w (((v.alloc (.cells E 30)).alloc (.cells Z 30)).setRow (v.heap.size + 1) E)) := Lib.hid (below_setRow ((B2.out.alloc (by omega) _).alloc (by rw [size_al]; omega) _) (by omega) _)
  generalize ((v.alloc (.cells E 30)).alloc (.cells Z 30)).setRow (v.heap.size + 1) E = V at *
  generalize hvs : v.heap.size + 1 = q at *
  have hq : w.heap.size + 1 < q := by omega
  clear HE HE37 HE1 HEI HZE hz37 hne G2 P2 B2 hp0 K0 hlt hvs
  generalize hN : s * s = N at *
  have HN := Lib.hid hN
  have hN64 : N ≤ 64 := HSS.out
  clear hN
  go_loopw [7] (fun i wr => ∃ (k : Nat) (C : Array Value), k ≤ N ∧ i = .int .i64 k ∧ Hid (C = pic s (gf F k)) ∧ Hid (wr.heap[q]? = some (.cells C 30 (0, 0))) ∧ Hid (wr.heap[w.heap.size + 1]? = some (.cells Z 30 (0, 0))) ∧ Hid (wr.heap[w.heap.size]? = some (.cells cs 50 (0, 0))) ∧ Hid (Below w.heap.size w wr)) (fun i _ => N - (intOf i).toNat)
  case atStart => exact ⟨0, E, by omega, rfl, Lib.hid (by rw [HEE.out, gf_zero]), GG, GZ, GP, BB⟩
  case round =>
    obtain ⟨k, C, hk, rfl, HD, G, Z0, P0, B⟩ := hrel
    have hp0 : wr.cell? ⟨w.heap.size, 0, none⟩ = some (.int .i64 s) := by rw [cell_of_row _ _ _ _ _ _ P0.out]; exact HP0.out
    by_cases hlt : k < N
    · have hdk : decide ((k : Int) < (N : Int)) = true := by simp; omega
      have hk64 : (k : Int) < 64 := by omega
      obtain ⟨x, hx, hzk⟩ := HZS.out.2 k (by omega)
      have hpk : wr.cell? ⟨w.heap.size, 1 + k, none⟩ = some (.float .f32 x) := by rw [cell_of_row _ _ _ _ _ _ P0.out, Nat.add_comm, HP.out]; exact hzk
      have HFK := Lib.hid (HFF.out k x hzk)
      have hold : wr.cell? ⟨q, 1 + k, none⟩ = some (.complex .f32 0 0) := by
        rw [cell_of_row _ _ _ _ _ _ G.out, HD.out]; exact gf_old s F k (by omega)
      have hfree : wr.frozen? ⟨q, 1 + k, none⟩ = false := frozen_of_row _ _ _ _ _ G.out
      have HSET : Hid (C.setIfInBounds (1 + k) (.complex .f32 (F k).1 (F k).2) = pic s (gf F (k + 1))) := Lib.hid (by rw [HD.out]; exact gf_set s F _ (by omega))
      have HSK : Hid (F k = (0, 0) → C = pic s (gf F (k + 1))) := Lib.hid fun h => by rw [HD.out, gf_skip F _ h]
      clear hzk hx HD
      cases hg : geF x t
      · have hg' : (FloatKind.f32.format.order x t == some .gt || FloatKind.f32.format.order x t == some .eq) = false := hg
        rw [hg] at HFK
        clear hg
        go_wp2
        exact ⟨⟨k + 1, C, by omega, by go_num, Lib.hid (HSK.out HFK.out), G, Z0, P0, B⟩, by simp [intOf]; omega⟩
      · have hg' : (FloatKind.f32.format.order x t == some .gt || FloatKind.f32.format.order x t == some .eq) = true := hg
        rw [hg] at HFK
        clear hg
        rw [HFK.out] at HSET
        go_wp2
        exact ⟨⟨k + 1, _, by omega, by go_num, HSET, Lib.hid (heap_setCell_same _ _ _ _ _ _ G.out), Lib.hid (by rw [heap_setCell_other _ _ _ _ (by show w.heap.size + 1 ≠ q; omega)]; exact Z0.out), Lib.hid (by rw [heap_setCell_other _ _ _ _ (by show w.heap.size ≠ q; omega)]; exact P0.out), Lib.hid (B.out.setCell (by show w.heap.size ≤ q; omega) _)⟩, by simp [intOf]; omega⟩
    · obtain rfl : k = N := by omega
      have HCC : Hid (C = pic s (gf F k)) := HD
      rw [← HCC.out] at HFI HZF HF1 HFW
      go_wp2_with (first | fail | (refine wpList_load_row rfl 30 (.tmp 6) rfl q rfl 30 C (0, 0) _ G.out Try.underlying30 rfl HFI.out ?_) | (refine wpList_store_row rfl 30 (.tmp 4) (.tmp 38) rfl (w.heap.size + 1) C rfl rfl 30 Z Z0.out HFI.out HZF.out HF1.out ?_))
      refine bodyPost_ret (v := .tuple #[.agg C, .int .i64 0]) (results_row_tmp (fn := Try.f42) (p := 4) (u := 5) (ty := 30) rfl _ _ (w.heap.size + 1) 30 C (0, 0) _ rfl (setRow_heap _ _ _ _ _ _ Z0.out) Try.underlying30 rfl HFI.out) rfl ⟨by rw [HCC.out, HN.out], ?_⟩
      exact below_setRow B.out (by omega) _

theorem specTh_any (s : Int) (zs : Array Value) (t : Nat) (hz : Floats zs) (w : World) : Calls Try.prog 42 #[.agg (pic s zs), .float .f32 t] w fun e w' => e = .returned (.tuple #[.agg (pic (ansTh s zs t).1 (ansTh s zs t).2.1), .int .i64 (ansTh s zs t).2.2]) ∧ Below w.heap.size w w' := by
  cases h0 : shown s zs
  · rw [ansTh_no s zs t (by rw [h0]; rfl)]
    exact specTh_no0 s zs t hz h0 w
  cases hf : fin t
  · rw [ansTh_no s zs t (by rw [h0, hf]; rfl)]
    exact specTh_no1 s zs t hz h0 hf w
  · rw [ansTh_yes s zs t (by rw [h0, hf]; rfl)]
    obtain ⟨hs, n, rfl⟩ := shown_side s zs h0
    exact specTh_yes n zs t hz hs h0 hf w
end Go.Proofs.Ytjmfffgddmnkmab
