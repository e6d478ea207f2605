/- The walk behind the halftone's door, over what a row does. Condition: a picture's levels; the program's error holds the library's. -/
import Derived.Test.YtjmfffgddmnkmabDoorNh
import Derived.Test.YtjmfffgddmnkmabDoorIHa
import Derived.BigQuiet
namespace Go.Proofs.YtjmfffgddmnkmabDoor
open Go Go.RowKit

/-- the channel that comes from above a row -/
def Above (n : Nat) (H : Nat → Nat) (y : Nat) : Obj := if y = 0 then .chan 0 #[] true 0 0 false else .chan n (Array.ofFn (n := n) fun i => .float .f32 (H (n * (y - 1) + i.val))) true n 0 false
/-- how a row ends -/
def RowEnd (n t d : Nat) (L : Nat → Nat) (y q c0 : Nat) (a : Addr) (v : World) (e : Ending) (w' : World) : Prop :=
  ((okT n t d L true (n * (y + 1)) = true ∧ ∃ c1, e = .returned (.chan (some c1)) ∧ v.heap.size ≤ c1 ∧ w'.heap[c1]? = some (Above n (hT n t d L true (n * (y + 1))) (y + 1)) ∧ w'.heap[q]? = some (.cells (pic n (gf (dot n t d L true) (n * (y + 1)))) 25 (0, 0))) ∨
    (okT n t d L true (n * (y + 1)) = false ∧ e = .panicked [{ v := errV a, recovered := false }])) ∧ ∀ B, B ≤ q → B ≤ c0 → B ≤ v.heap.size → Below B v w'

set_option maxRecDepth 100000 in
set_option maxHeartbeats 1000000 in
theorem closHt (n : Nat) (zs : Array Value) (t d : Nat) (hs : side n = true) (b c : Nat) (a : Addr) (w : World) (hE : Err a w)
    (hb : w.heap[b]? = some (.cells (pic n zs) 36 (0, 0))) (hc : w.cell? ⟨c, 0, none⟩ = some (.float .f32 t))
    (hR : ∀ (y q c0 : Nat) (v : World), y < n → okT n t d (lev zs) true (n * y) = true → Err a v → v.heap[b]? = some (.cells (pic n zs) 36 (0, 0)) → v.heap[q]? = some (.cells (pic n (gf (dot n t d (lev zs) true) (n * y))) 25 (0, 0)) → v.heap[c0]? = some (Above n (hT n t d (lev zs) true (n * y)) y) → q ≠ c0 →
      Calls Tryd.prog 42 #[.slice (some ⟨q, 1 + n * y, none⟩) n n, .slice (some ⟨b, 1 + n * y, none⟩) n n, .float .f32 t, .chan (some c0)] v fun e w' => RowEnd n t d (lev zs) y q c0 a v e w') :
    Calls Tryd.prog 38 #[.pointer (some ⟨b, 0, none⟩), .pointer (some ⟨c, 0, none⟩)] w fun e w' => HtC (okT n t d (lev zs) true (n * n)) (pic n (gf (dot n t d (lev zs) true) (n * n))) a e ∧ Below w.heap.size w w' := by
  have hz37 := (zero_of_info info37').1
  have HS37 := Lib.hid (zero_of_info info37').2
  have HZ37 : Hid ((pic 0 zc).size = 65) := Lib.hid (pic_size 0 zc zc_size)
  have hne := pic_ne
  have HB := Lib.hid (pic_set0 0 n zc)
  have HR := Lib.hid hR
  have HE := Lib.hid hE
  have HPB := Lib.hid hb
  have HTC := Lib.hid hc
  have HFW : Hid (FinW n (pic n (gf (dot n t d (lev zs) true) (n * n)))) := Lib.hid (gf_fin n _ (dot_fin n t d (lev zs) true) (n * n))
  have HNO : Hid (∀ j, j ≤ n * n → okT n t d (lev zs) true j = false → okT n t d (lev zs) true (n * n) = false) := Lib.hid fun j hj h => okT_no n t d (lev zs) true j (n * n) hj h
  have hn8 : 1 ≤ n ∧ n ≤ 8 := by rcases side_nat n hs with rfl | rfl | rfl | rfl <;> omega
  have hp0 : w.cell? ⟨b, 0, none⟩ = some (.int .i64 n) := by rw [cell_of_row _ _ _ _ _ _ hb]; exact pic_zero n zs
  have HP0 := Lib.hid hp0
  have hbl : b < w.heap.size := (Array.getElem?_eq_some_iff.1 hb).1
  obtain ⟨Z, hZ⟩ : ∃ Z, Z = pic 0 zc := ⟨_, rfl⟩
  rw [← hZ] at hz37 HZ37 hne HB
  have HE2 : Hid ((Tryd.prog.info? 25).map (·.size) = some (Z.setIfInBounds 0 (Value.int .i64 n)).size) := Lib.hid (by rw [HB.out, pic_size _ _ zc_size]; exact HS37.out)
  have HZ2 : Hid (Z.size = (Z.setIfInBounds 0 (Value.int .i64 n)).size) := Lib.hid (by simp)
  have H2 : Hid ((Z.setIfInBounds 0 (Value.int .i64 n)).all (·.oneCell') = true) := Lib.hid (by rw [HB.out]; exact zc_one n)
  obtain ⟨E, hE0⟩ : ∃ E, E = pic n zc := ⟨_, rfl⟩
  rw [← hE0] at HB
  have HEE := Lib.hid hE0
  clear hZ hE0 hs hR hE hb hc
  generalize lev zs = L at *
  go_enter Tryd.func38, Tryd.ntmps38
  go_wp2_with (first | fail | (refine wpList_store_row rfl 25 (.tmp 3) (.tmp 10) rfl (w.heap.size + 1) (Z.setIfInBounds 0 (Value.int .i64 n)) rfl rfl 25 Z (h2_1 _ _ _) HE2.out HZ2.out H2.out ?_; rw [setRow_al2, HB.out]) | (go_at_call 39; fail))
  have GG : Hid (((w.alloc (.cells Z 25)).alloc (.cells E 25)).heap[w.heap.size + 1]? = some (.cells E 25 (0, 0))) := Lib.hid (h2_1 _ _ _)
  have GZ : Hid (((w.alloc (.cells Z 25)).alloc (.cells E 25)).heap[w.heap.size]? = some (.cells Z 25 (0, 0))) := Lib.hid (h2_0 _ _ _)
  have BB : Hid (Below w.heap.size w ((w.alloc (.cells Z 25)).alloc (.cells E 25))) := Lib.hid (below_al2 _ _ _)
  generalize (w.alloc (.cells Z 25)).alloc (.cells E 25) = V at *
  clear hz37 hne HE2 HZ2 H2 hp0
  refine (noHalves_any _).mono ?_
  rintro e V1 ⟨rfl, hch, bch⟩
  have hlV := (Array.getElem?_eq_some_iff.1 GG.out).1
  have CH := Lib.hid hch
  have GG1 : Hid (V1.heap[w.heap.size + 1]? = some (.cells E 25 (0, 0))) := Lib.hid (by rw [bch.block _ hlV]; exact GG.out)
  have GZ1 : Hid (V1.heap[w.heap.size]? = some (.cells Z 25 (0, 0))) := Lib.hid (by rw [bch.block _ (by omega)]; exact GZ.out)
  have BB1 : Hid (Below w.heap.size w V1) := Lib.hid (BB.out.trans (bch.mono BB.out.size))
  clear hch bch GG GZ BB
  generalize V.heap.size = c0 at *
  have hp1 : V1.cell? ⟨b, 0, none⟩ = some (.int .i64 n) := by rw [BB1.out.cell (World.block_lt_of_cell? w _ HP0.out)]; exact HP0.out
  go_wp2
  go_loopw [14, 4] (fun i o wr => ∃ (y c1 : Nat) (C : Array Value), y ≤ n ∧ i = .int .i64 y ∧ o = .chan (some c1) ∧ w.heap.size + 1 < c1 ∧ Hid (okT n t d L true (n * y) = true) ∧ Hid (C = pic n (gf (dot n t d L true) (n * y))) ∧ Hid (wr.heap[w.heap.size + 1]? = some (.cells C 25 (0, 0))) ∧ Hid (wr.heap[w.heap.size]? = some (.cells Z 25 (0, 0))) ∧ Hid (wr.heap[c1]? = some (Above n (hT n t d L true (n * y)) y)) ∧ Hid (Below w.heap.size w wr)) (fun i _ _ => n - (intOf i).toNat)
  case atStart => exact ⟨0, c0, E, by omega, rfl, rfl, by omega, Lib.hid rfl, Lib.hid (by rw [HEE.out, Nat.mul_zero, gf_zero]), GG1, GZ1, CH, BB1⟩
  case round =>
    obtain ⟨y, c1, C, hy, rfl, rfl, hc1, HOK, HC, G, Z0, CC, B⟩ := hrel
    by_cases hlt : y < n
    · have hdy : decide ((y : Int) < (n : Int)) = true := by simp; omega
      have hq0 : wr.cell? ⟨b, 0, none⟩ = some (.int .i64 n) := by rw [B.out.cell (World.block_lt_of_cell? w _ HP0.out)]; exact HP0.out
      have hqt : wr.cell? ⟨c, 0, none⟩ = some (.float .f32 t) := by rw [B.out.cell (World.block_lt_of_cell? w _ HTC.out)]; exact HTC.out
      have R1 := Lib.hid (fun v => rowOf_cells (w.heap.size + 1) 1 n y hn8 hlt v)
      have R2 := Lib.hid (fun v => rowOf_levels b 1 n y hn8 hlt v)
      go_wp2_with fail
      go_quiet ((first | (go_at_call 40; exact Calls.quiet_of_same ((R1.out _).mono fun _ _ h => ⟨h.1, h.2.symm⟩)) | (go_at_call 41; exact Calls.quiet_of_same ((R2.out _).mono fun _ _ h => ⟨h.1, h.2.symm⟩))))
      have E1 := Lib.hid (HE.out.cell (below_drewN B.out nq))
      have hlv := (Array.getElem?_eq_some_iff.1 G.out).1
      have RR := Lib.hid (HR.out y (w.heap.size + 1) c1 (wr.drewN nq) hlt HOK.out E1.out (by rw [(below_drewN B.out nq).block _ hbl]; exact HPB.out) (by rw [← HC.out]; exact G.out) CC.out (by omega))
      have hqt2 : (wr.drewN nq).cell? ⟨c, 0, none⟩ = some (.float .f32 t) := by rw [World.cell?_drewN]; exact hqt
      have Z1 : Hid ((wr.drewN nq).heap[w.heap.size]? = some (.cells Z 25 (0, 0))) := Z0
      have B1 : Hid (Below w.heap.size w (wr.drewN nq)) := Lib.hid (below_drewN B.out _)
      have hls : (wr.drewN nq).heap.size = wr.heap.size := rfl
      generalize wr.drewN nq = wv at *
      clear hqt hq0 R1 R2 HR
      go_wp2_with (go_at_call 42; fail)
      refine RR.out.mono ?_
      rintro e w2 ⟨hend, hkeep⟩
      have B2 : Hid (Below w.heap.size w w2) := Lib.hid (B1.out.trans (hkeep _ (by omega) (by omega) (by omega)))
      have Z2 : Hid (w2.heap[w.heap.size]? = some (.cells Z 25 (0, 0))) := Lib.hid (by rw [(hkeep (w.heap.size + 1) (Nat.le_refl _) (by omega) (by omega)).block _ (by omega)]; exact Z1.out)
      clear hkeep
      rcases hend with ⟨hok, c2, rfl, hc2, hch2, hrow⟩ | ⟨hok, rfl⟩
      · have OK2 := Lib.hid hok
        have CH2 := Lib.hid hch2
        have G2 := Lib.hid hrow
        have hc3 : w.heap.size + 1 < c2 := by omega
        clear hok hch2 hrow hc2
        go_wp2
        exact ⟨⟨y + 1, c2, _, by omega, by go_num, rfl, hc3, OK2, Lib.hid rfl, G2, Z2, CH2, B2⟩, by simp [intOf]; omega⟩
      · have hle : n * (y + 1) ≤ n * n := Nat.mul_le_mul_left _ (by omega)
        exact ⟨rfl, by unfold HtC; rw [HNO.out _ hle hok]; rfl, B2.out⟩
    · obtain rfl : y = n := by omega
      rw [← HC.out] at HFW
      have HCI : Hid ((Tryd.prog.info? 25).map (·.size) = some C.size) := Lib.hid (by rw [HFW.out.1]; exact HS37.out)
      have HZF : Hid (Z.size = C.size) := Lib.hid (by rw [HFW.out.1]; exact HZ37.out)
      have HF1 := Lib.hid (finW_one HFW.out)
      go_wp2_with (first | fail | (refine wpList_load_row rfl 25 (.tmp 3) rfl (w.heap.size + 1) rfl 25 C (0, 0) _ G.out Tryd.underlying25 rfl HCI.out ?_) | (refine wpList_store_row rfl 25 (.tmp 2) (.tmp 35) rfl w.heap.size C rfl rfl 25 Z Z0.out HCI.out HZF.out HF1.out ?_))
      refine bodyPost_ret (v := .agg C) (results_cell_row (fn := Tryd.f38) (p := 2) (ty := 25) rfl _ _ w.heap.size 25 C (0, 0) _ rfl (setRow_heap _ _ _ _ _ _ Z0.out) Tryd.underlying25 rfl HCI.out) rfl ⟨by unfold HtC; rw [HOK.out, ← HC.out]; rfl, ?_⟩
      exact below_setRow B.out (Nat.le_refl _) _
end Go.Proofs.YtjmfffgddmnkmabDoor
