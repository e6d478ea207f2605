/- The program finds a wave of finite cells finite. Condition: 64 finite cells. -/
import Derived.Test.YtjmfffgddmnkmabWho
import Derived.Test.YtjmfffgddmnkmabRes
namespace Go.Proofs.Ytjmfffgddmnkmab
open Go Go.RowKit

/-- a wave of 64 finite complex numbers -/
def FinW (s : Int) (D : Array Value) : Prop := D.size = 65 ∧ D[0]? = some (.int .i64 s) ∧ ∀ k, k < 64 → ∃ x y, D[1 + k]? = some (.complex .f32 x y) ∧ (fin x && fin y) = true
theorem finW_of (s : Int) (zs : Array Value) (h : Cells zs) : FinW s (pic s zs) := by
  refine ⟨pic_size _ _ h.1, pic_zero _ _, fun k hk => ?_⟩
  obtain ⟨x, y, hx, hy, hz⟩ := h.2 k hk
  exact ⟨x, y, by rw [Nat.add_comm, pic_succ]; exact hz, by rw [hx, hy]; rfl⟩
theorem finW_one {s : Int} {D : Array Value} (h : FinW s D) : D.all (·.oneCell') = true := by
  rw [Array.all_eq_true_iff_forall_mem]
  intro v hv
  obtain ⟨i, hi, he⟩ := Array.mem_iff_getElem.1 hv
  have hg := Array.getElem?_eq_getElem hi
  rw [he] at hg
  cases i with
  | zero => rw [h.2.1] at hg; cases hg; rfl
  | succ i =>
    rw [h.1] at hi
    obtain ⟨x, y, hz, _⟩ := h.2.2 i (by omega)
    rw [Nat.add_comm, hg] at hz
    cases hz
    rfl

set_option maxRecDepth 100000 in
set_option maxHeartbeats 1000000 in
theorem areComplex_yes (b : Nat) (s : Int) (D : Array Value) (h : FinW s D) (w : World) (hb : w.heap[b]? = some (.cells D 30 (0, 0))) :
    Calls Try.prog 135 #[.slice (some ⟨b, 1, none⟩) 64 64] w fun e w' => e = .returned (.bool true) ∧ ∃ n, w' = w.drewN n := by
  have HD := Lib.hid h.2.2
  have HB := Lib.hid hb
  clear h hb
  go_enter Try.func135, Try.ntmps135
  go_wp2
  go_loopw [7] (fun i wr => ∃ k n : Nat, k ≤ 64 ∧ i = .int .i64 k ∧ wr = w.drewN n) (fun i _ => 64 - (intOf i).toNat)
  case atStart => exact ⟨0, 0, by omega, rfl, rfl⟩
  case round =>
    obtain ⟨k, n, hk, rfl, rfl⟩ := hrel
    by_cases hlt : k < 64
    · obtain ⟨x, y, hzk, hf⟩ := HD.out k hlt
      have c1 : (w.drewN n).cell? ⟨b, 1 + k, none⟩ = some (.complex .f32 x y) := by
        rw [World.cell?_drewN, cell_of_row _ _ _ D 30 (0, 0) HB.out]; exact hzk
      go_wp2_with (go_at_call 119; refine (isComplex_any _ _ _).mono ?_; rw [hf]; rintro e w' ⟨rfl, n', rfl⟩)
      exact ⟨⟨k + 1, n + n', by omega, by go_num, rfl⟩, by simp [intOf]; omega⟩
    · obtain rfl : k = 64 := by omega
      go_wp2
      go_ret
      exact ⟨rfl, n, rfl⟩

set_option maxRecDepth 100000 in
set_option maxHeartbeats 1000000 in
theorem finite_wave (s : Int) (D : Array Value) (h : FinW s D) (w : World) :
    Calls Try.prog 120 #[.agg D] w fun e w' => e = .returned (.tuple #[.agg D, .int .i64 0]) ∧ Below w.heap.size w w' := by
  have hz37 := (zero_of_info info37').1
  have HS37 := Lib.hid (zero_of_info info37').2
  have HZ37 : Hid ((pic 0 zc).size = 65) := Lib.hid (pic_size 0 zc zc_size)
  generalize pic 0 zc = Z at *
  have HDI : Hid ((Try.prog.info? 30).map (·.size) = some D.size) := Lib.hid (by rw [h.1]; exact HS37.out)
  have HZD : Hid (Z.size = D.size) := Lib.hid (by rw [h.1]; exact HZ37.out)
  have H1 := Lib.hid (finW_one h)
  have HA := Lib.hid (areComplex_yes w.heap.size s D h ((w.alloc (.cells D 30)).alloc (.cells Z 30)) (h2_0 _ _ _))
  clear h
  go_enter Try.func120, Try.ntmps120
  go_wp2_with fail
  refine HA.out.mono ?_
  rintro e w1 ⟨rfl, n, rfl⟩
  have HH1 : Hid ((((w.alloc (.cells D 30)).alloc (.cells Z 30)).drewN n).heap[w.heap.size + 1]? = some (.cells Z 30)) := Lib.hid (h2_1 _ _ _)
  have HH0 : Hid ((((w.alloc (.cells D 30)).alloc (.cells Z 30)).drewN n).heap[w.heap.size]? = some (.cells D 30)) := Lib.hid (h2_0 _ _ _)
  go_wp2_with (first | (refine wpList_load_row rfl 30 (.tmp 1) rfl w.heap.size rfl 30 D (0, 0) _ HH0.out Try.underlying30 rfl HDI.out ?_) | (refine wpList_store_row rfl 30 (.tmp 2) (.tmp 9) rfl (w.heap.size + 1) D rfl rfl 30 Z HH1.out HDI.out HZD.out H1.out ?_))
  refine bodyPost_ret (v := .tuple #[.agg D, .int .i64 0]) (results_row_tmp (fn := Try.f120) (p := 2) (u := 3) (ty := 30) rfl _ _ (w.heap.size + 1) 30 D (0, 0) _ rfl (setRow_heap _ _ _ _ _ _ HH1.out) Try.underlying30 rfl HDI.out) rfl ⟨rfl, ?_⟩
  exact below_setRow (below_drewN (below_al2 _ _ _) _) (by omega) _
end Go.Proofs.Ytjmfffgddmnkmab
