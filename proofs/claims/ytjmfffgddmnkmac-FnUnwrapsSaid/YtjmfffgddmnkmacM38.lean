/- Waves that were drawn: their cells, and a store into one. Condition: none. The law's own dice: what they are in memory, a throw, and their making. Condition: a code that can be read. -/
import Derived.Test.YtjmfffgddmnkmacDr2
import Derived.Test.YtjmfffgddmnkmacM23
import Derived.Test.YtjmfffgddmnkmacM24
import Derived.Test.YtjmfffgddmnkmacSo2
namespace Go.Proofs.Ytjmfffgddmnkmac
open Go Go.RowKit

/-- a wave was drawn -/
def WavD (p : Nat) (s : Int) (w : World) (e : Ending) (w' : World) : Prop := ∃ D, e = .returned (.agg D) ∧ Wav s D ∧ Src p w' ∧ Trn p w w'

theorem Src.setOther {p g j t : Nat} {s : Int} {w : World} {D : Array Value} {fr : Nat × Nat} {v : Value} (hs : Src p w) (hg : w.heap[g]? = some (.cells D t fr)) (hne : g ≠ p) (hD : Wav s D) : Src p (w.setCell ⟨g, j, none⟩ v) := by
  obtain ⟨len, cap, pos, ad, x, hx, a, b, c, d, hc⟩ := hs
  refine ⟨len, cap, pos, ad, x, by rw [heap_setCell_other _ _ _ _ hne.symm]; exact hx, a, b, c, d, fun h0 => ?_⟩
  obtain ⟨cb, off, e, ne, lt, hb⟩ := hc h0
  have hcg : cb ≠ g := by
    rintro rfl
    obtain ⟨y, _, _, hy⟩ := hb 0 h0
    rw [cell_of_row _ _ _ _ _ _ hg] at hy
    exact wav_no hD _ _ hy
  refine ⟨cb, off, e, ne, by rw [World.size_setCell]; exact lt, fun i hi => ?_⟩
  obtain ⟨y, y0, y1, hy⟩ := hb i hi
  refine ⟨y, y0, y1, ?_⟩
  unfold World.cell?
  rw [heap_setCell_other _ _ _ _ hcg]
  exact hy

theorem Trn.setRow {p : Nat} {a w : World} (h : Trn p a w) (g : Nat) (cs : Array Value) (hg : a.heap.size ≤ g) : Trn p a (w.setRow g cs) :=
  ⟨h.os, h.tape, h.output, by rw [size_setRow]; exact h.size, fun k hk hp => by
    rw [heap_setRow_other _ _ _ _ (by omega)]; exact h.block k hk hp⟩
theorem Src.setRow {p g t : Nat} {s : Int} {w : World} {D : Array Value} {fr : Nat × Nat} (hs : Src p w) (hg : w.heap[g]? = some (.cells D t fr)) (hne : g ≠ p) (hD : Wav s D) (cs : Array Value) : Src p (w.setRow g cs) := by
  obtain ⟨len, cap, pos, ad, x, hx, a, b, c, d, hc⟩ := hs
  refine ⟨len, cap, pos, ad, x, by rw [heap_setRow_other _ _ _ _ hne.symm]; exact hx, a, b, c, d, fun h0 => ?_⟩
  obtain ⟨cb, off, e, ne, lt, hb⟩ := hc h0
  have hcg : cb ≠ g := by
    rintro rfl
    obtain ⟨y, _, _, hy⟩ := hb 0 h0
    rw [cell_of_row _ _ _ _ _ _ hg] at hy
    exact wav_no hD _ _ hy
  refine ⟨cb, off, e, ne, by rw [size_setRow]; exact lt, fun i hi => ?_⟩
  obtain ⟨y, y0, y1, hy⟩ := hb i hi
  refine ⟨y, y0, y1, ?_⟩
  unfold World.cell?
  rw [heap_setRow_other _ _ _ _ hcg]
  exact hy

/-- where a wave lies while it is drawn -/
def Lies (p : Nat) (s : Int) (w : World) (g : Nat) (wr : World) : Prop :=
  ∃ D, wr.heap[g]? = some (.cells D 33 (0, 0)) ∧ Wav s D ∧ Src p wr ∧ Trn p w wr

theorem Lies.own {p g : Nat} {s : Int} {w a b : World} (h : Lies p s w g a) (hne : g ≠ p) (hs : Src p b) (ho : Trn p a b) : Lies p s w g b := by
  obtain ⟨D, hg, hd, s0, o0⟩ := h
  have hl : g < a.heap.size := by
    by_cases hl : g < a.heap.size
    · exact hl
    · rw [Array.getElem?_eq_none (by omega)] at hg; cases hg
  exact ⟨D, by rw [ho.block g hl hne]; exact hg, hd, hs, o0.trans ho⟩
theorem Lies.set {p g : Nat} {s : Int} {w a : World} (h : Lies p s w g a) (hne : g ≠ p) (hn : w.heap.size ≤ g) (k x y : Nat) : Lies p s w g (a.setCell ⟨g, 1 + k, none⟩ (.complex .f32 x y)) := by
  obtain ⟨D, hg, hd, s0, o0⟩ := h
  exact ⟨D.setIfInBounds (1 + k) (.complex .f32 x y), heap_setCell_same _ _ _ _ _ _ hg, wav_set hd k x y, s0.setOther hg hne hd, o0.setNew g _ _ hn⟩
theorem Lies.cell {p g : Nat} {s : Int} {w a : World} (h : Lies p s w g a) (k : Nat) (hk : k < 64) : ∃ x y, a.cell? ⟨g, 1 + k, none⟩ = some (.complex .f32 x y) := by
  obtain ⟨D, hg, hd, _⟩ := h
  obtain ⟨x, y, e⟩ := hd.2.2 k hk
  exact ⟨x, y, by rw [cell_of_row _ _ _ _ _ _ hg]; exact e⟩
theorem Lies.free {p g : Nat} {s : Int} {w a : World} (h : Lies p s w g a) (k : Nat) : a.frozen? ⟨g, 1 + k, none⟩ = false := by
  obtain ⟨D, hg, _⟩ := h
  exact frozen_of_row _ _ _ _ _ hg
end Go.Proofs.Ytjmfffgddmnkmac

namespace Go.Proofs.Ytjmfffgddmnkmac
open Go Go.RowKit

/-- the source lies in block p: the code's bytes can be read, as far as they are long -/
def Dic (p : Nat) (w : World) : Prop :=
  ∃ (len cap pos : Nat) (ad : Option Addr) (h : Int), w.heap[p]? = some (.cells #[.slice ad len cap, .int .i64 pos, .int .u64 h] 87 (0, 0)) ∧
    pos ≤ len ∧ len ≤ 140737488351232 ∧ 0 ≤ h ∧ h ≤ 18446744073709551615 ∧
    (0 < len → ∃ cb off, ad = some ⟨cb, off, none⟩ ∧ cb < p ∧ cb < w.heap.size ∧ ∀ i, i < len → ∃ b : Int, 0 ≤ b ∧ b ≤ 255 ∧ w.cell? ⟨cb, off + i, none⟩ = some (.int .u8 b))

/-- what a draw of a number below n leaves -/
def Rolled (p : Nat) (n : Int) (w : World) (e : Ending) (w' : World) : Prop :=
  ∃ r : Int, e = .returned (.int .i64 r) ∧ 0 ≤ r ∧ (r < n ∨ r = 0) ∧ Dic p w' ∧ Trn p w w'

theorem below_low (p : Nat) (n : Int) (w : World) (hs : Dic p w) (hn : n < 1) : Calls Try.prog 24 #[.pointer (some ⟨p, 0, none⟩), .int .i64 n] w (Rolled p n w) := by
  have HS := Lib.hid hs
  clear hs
  go_enter Try.func24, Try.ntmps24
  go_wp2
  go_ret
  exact ⟨0, rfl, by omega, .inr rfl, HS.out, Trn.refl _ _⟩

theorem and24 (x : Int) : 0 ≤ wrap64 (bits BinOp.and IntKind.u64 x 16777215) ∧ wrap64 (bits BinOp.and IntKind.u64 x 16777215) ≤ 16777215 := by
  have h : (BitVec.ofInt 64 x &&& BitVec.ofInt 64 16777215).toNat ≤ 16777215 := by
    rw [BitVec.toNat_and]
    exact Nat.and_le_right
  have e : bits BinOp.and IntKind.u64 x 16777215 = IntKind.u64.wrap (BitVec.ofInt 64 x &&& BitVec.ofInt 64 16777215).toNat := rfl
  rw [e, IntKind.wrap_u64]
  unfold wrap64
  omega

set_option maxHeartbeats 400000 in
theorem below_high (p : Nat) (n : Int) (w : World) (hs : Dic p w) (hn : ¬ n < 1) : Calls Try.prog 24 #[.pointer (some ⟨p, 0, none⟩), .int .i64 n] w (Rolled p n w) := by
  obtain ⟨len, cap, pos, ad, h, hg, hpl, hl, hh0, hh1, hc⟩ := hs
  have c0 : w.cell? ⟨p, 0, none⟩ = some (.slice ad len cap) := by rw [cell_of_row _ _ _ _ _ _ hg]; rfl
  have c1 : w.cell? ⟨p, 1, none⟩ = some (.int .i64 pos) := by rw [cell_of_row _ _ _ _ _ _ hg]; rfl
  have c2 : w.cell? ⟨p, 2, none⟩ = some (.int .u64 h) := by rw [cell_of_row _ _ _ _ _ _ hg]; rfl
  have f2 : w.frozen? ⟨p, 2, none⟩ = false := frozen_of_row _ _ _ _ _ hg
  have f1 : w.frozen? ⟨p, 1, none⟩ = false := frozen_of_row _ _ _ _ _ hg
  have HG := Lib.hid hg
  have HC := Lib.hid hc
  clear hg hc
  go_enter Try.func24, Try.ntmps24
  go_wp2_with fail
  have hX := and24 (IntKind.u64.wrap (IntKind.u64.wrap (h * 6364136223846793005) + 1442695040888963407) / 8589934592)
  generalize wrap64 (bits BinOp.and IntKind.u64 (IntKind.u64.wrap (IntKind.u64.wrap (h * 6364136223846793005) + 1442695040888963407) / 8589934592) 16777215) = X at *
  generalize bits BinOp.and IntKind.u64 (IntKind.u64.wrap (IntKind.u64.wrap (h * 6364136223846793005) + 1442695040888963407) / 8589934592) 16777215 = X2 at *
  generalize IntKind.u64.wrap (IntKind.u64.wrap (h * 6364136223846793005) + 1442695040888963407) / 8589934592 = X3 at *
  have hH : 0 ≤ IntKind.u64.wrap (IntKind.u64.wrap (h * 6364136223846793005) + 1442695040888963407) ∧ IntKind.u64.wrap (IntKind.u64.wrap (h * 6364136223846793005) + 1442695040888963407) ≤ 18446744073709551615 := by
    rw [IntKind.wrap_u64]; omega
  generalize IntKind.u64.wrap (IntKind.u64.wrap (h * 6364136223846793005) + 1442695040888963407) = H at *
  generalize IntKind.u64.wrap (h * 6364136223846793005) = H2 at *
  have g1 : (w.setCell ⟨p, 2, none⟩ (.int .u64 H)).heap[p]? = some (.cells #[.slice ad len cap, .int .i64 pos, .int .u64 H] 87 (0, 0)) := by
    rw [heap_setCell_same _ _ _ _ _ _ HG.out]; rfl
  have o1 : Trn p w (w.setCell ⟨p, 2, none⟩ (.int .u64 H)) := (Trn.refl p w).setCell 2 _
  have k1 : ∀ b j, b ≠ p → (w.setCell ⟨p, 2, none⟩ (.int .u64 H)).cell? ⟨b, j, none⟩ = w.cell? ⟨b, j, none⟩ := fun b j hb => by
    unfold World.cell?
    rw [heap_setCell_other _ _ _ _ hb]
  have s1 : (w.setCell ⟨p, 2, none⟩ (.int .u64 H)).heap.size = w.heap.size := World.size_setCell _ _ _
  generalize w.setCell ⟨p, 2, none⟩ (.int .u64 H) = W at *
  have d0 : W.cell? ⟨p, 0, none⟩ = some (.slice ad len cap) := by rw [cell_of_row _ _ _ _ _ _ g1]; rfl
  have d1 : W.cell? ⟨p, 1, none⟩ = some (.int .i64 pos) := by rw [cell_of_row _ _ _ _ _ _ g1]; rfl
  have e1 : W.frozen? ⟨p, 1, none⟩ = false := frozen_of_row _ _ _ _ _ g1
  have G1 := Lib.hid g1
  have O1 := Lib.hid o1
  have K1 := Lib.hid k1
  have S1 := Lib.hid s1
  clear g1 o1 k1 s1 c0 c1 c2 f1 f2
  have HT : Hid (0 < len → ∃ cb off, ad = some ⟨cb, off, none⟩ ∧ cb < p ∧ cb < W.heap.size ∧ ∀ i, i < len → ∃ b : Int, 0 ≤ b ∧ b ≤ 255 ∧ W.cell? ⟨cb, off + i, none⟩ = some (.int .u8 b)) := Lib.hid fun h0 => by
    obtain ⟨cb, off, e, ne, lt, hb⟩ := HC.out h0
    exact ⟨cb, off, e, ne, by rw [S1.out]; exact lt, fun i hi => by rw [K1.out _ _ (Nat.ne_of_lt ne)]; exact hb i hi⟩
  have hm : 0 < n := by omega
  by_cases hlt : pos < len
  · obtain ⟨cb, off, rfl, ne, lt, hb⟩ := HT.out (by omega)
    obtain ⟨b, b0, b1, hbc⟩ := hb pos hlt
    have hd : decide (pos < len) = true := by simp; omega
    have hw : IntKind.i64.wrap (X + b) = X + b := IntWalk.i64_in _ (by omega)
    clear hb
    go_quiet (fail)
    go_wp2_with fail
    go_quiet (fail)
    go_wp2
    go_ret
    refine ⟨_, rfl, Int.emod_nonneg _ (by omega), .inl (Int.emod_lt_of_pos _ hm), ?_, (O1.out.drewN _).setCell 1 _⟩
    refine ⟨len, cap, pos + 1, some ⟨cb, off, none⟩, H, ?_, by omega, hl, hH.1, hH.2, fun _ => ⟨cb, off, rfl, ne, ?_, fun i hi => ?_⟩⟩
    · rw [heap_setCell_same _ _ _ _ _ _ (show ((W.drewN _).heap[p]? = _) from G1.out)]
      rfl
    · rw [World.size_setCell]; exact lt
    · obtain ⟨b, b0, b1, hb⟩ := HT.out (by omega) |>.elim fun cb' h => h.elim fun off' h => by
        obtain ⟨e, _, _, hb⟩ := h
        cases e
        exact hb i hi
      refine ⟨b, b0, b1, ?_⟩
      unfold World.cell?
      rw [heap_setCell_other _ _ _ _ (Nat.ne_of_lt ne)]
      exact hb
  · have hd : decide (pos < len) = false := by simp; omega
    go_quiet (fail)
    go_wp2
    go_ret
    exact ⟨_, rfl, Int.emod_nonneg _ (by omega), .inl (Int.emod_lt_of_pos _ hm), ⟨len, cap, pos, ad, H, G1.out, hpl, hl, hH.1, hH.2, HT.out⟩, O1.out.drewN _⟩

theorem below_any (p : Nat) (n : Int) (w : World) (hs : Dic p w) : Calls Try.prog 24 #[.pointer (some ⟨p, 0, none⟩), .int .i64 n] w (Rolled p n w) := by
  by_cases hn : n < 1
  · exact below_low p n w hs hn
  · exact below_high p n w hs hn

/-- what making a source leaves -/
def Thrown (w : World) (e : Ending) (w' : World) : Prop :=
  ∃ p, e = .returned (.pointer (some ⟨p, 0, none⟩)) ∧ w.heap.size ≤ p ∧ p < w'.heap.size ∧ Dic p w' ∧ Below w.heap.size w w'

theorem thrown (ad : Option Addr) (len cap : Nat) (w wr : World) (H : Int) (hl : len ≤ 140737488351232)
    (hc : 0 < len → ∃ cb off, ad = some ⟨cb, off, none⟩ ∧ cb < w.heap.size ∧ ∀ i, i < len → ∃ b : Int, 0 ≤ b ∧ b ≤ 255 ∧ w.cell? ⟨cb, off + i, none⟩ = some (.int .u8 b))
    (hg : wr.heap[w.heap.size]? = some (.cells #[.slice ad len cap, .int .i64 0, .int .u64 H] 87 (0, 0)))
    (hb : Below w.heap.size w wr) (hs : w.heap.size < wr.heap.size) (h0 : 0 ≤ H) (h1 : H ≤ 18446744073709551615) :
    Thrown w (.returned (.pointer (some ⟨w.heap.size, 0, none⟩))) wr := by
  refine ⟨w.heap.size, rfl, Nat.le_refl _, hs, ⟨len, cap, 0, ad, H, hg, Nat.zero_le _, hl, h0, h1, fun hp => ?_⟩, hb⟩
  obtain ⟨cb, off, e, lt, hx⟩ := hc hp
  refine ⟨cb, off, e, by omega, by omega, fun i hi => ?_⟩
  rw [hb.cell (p := ⟨cb, off + i, none⟩) lt]
  exact hx i hi

set_option maxRecDepth 100000 in
set_option maxHeartbeats 400000 in
theorem roll_of (sd : Int) (h0 : 0 ≤ sd) (h9 : sd ≤ 100000) (ad : Option Addr) (len cap : Nat) (w : World) (hc : Code ad len w) : Calls Try.prog 23 #[.slice ad len cap, .int .u64 sd] w (Thrown w) := by
  obtain ⟨hl, hc⟩ := hc
  have HC := Lib.hid hc
  clear hc
  have hw : IntKind.u64.wrap (len : Int) = len := by rw [IntKind.wrap_u64]; omega
  have hw2 : IntKind.u64.wrap (sd * 8111) = sd * 8111 := by rw [IntKind.wrap_u64]; omega
  have hw3 : IntKind.u64.wrap (sd * 8111 + len) = sd * 8111 + len := by rw [IntKind.wrap_u64]; omega
  go_enter Try.func23, Try.ntmps23
  go_wp2_with fail
  go_loopw [6] (fun i wr => ∃ (k : Nat) (H : Int), k ≤ len ∧ i = .int .i64 k ∧ 0 ≤ H ∧ H ≤ 18446744073709551615 ∧
      Hid (wr.heap[w.heap.size]? = some (.cells #[.slice ad len cap, .int .i64 0, .int .u64 H] 87 (0, 0))) ∧ Hid (Below w.heap.size w wr) ∧ w.heap.size < wr.heap.size) (fun i _ => len - (intOf i).toNat)
  case atStart => exact ⟨0, sd * 8111 + len, by omega, rfl, by omega, by omega, Lib.hid (h1_0 _ _), Lib.hid ((Below.refl _ _).alloc (Nat.le_refl _) _), by rw [size_al]; omega⟩
  case round =>
    obtain ⟨k, H, hk, rfl, H0, H1, HG, HB, hs⟩ := hrel
    by_cases hlt : k < len
    · · obtain ⟨cb, off, rfl, lt, hb⟩ := HC.out (by omega)
        obtain ⟨b, b0, b1, hbc⟩ := hb k hlt
        have c2 : wr.cell? ⟨w.heap.size, 2, none⟩ = some (.int .u64 H) := by rw [cell_of_row _ _ _ _ _ _ HG.out]; rfl
        have f2 : wr.frozen? ⟨w.heap.size, 2, none⟩ = false := frozen_of_row _ _ _ _ _ HG.out
        have hbc' : wr.cell? ⟨cb, off + k, none⟩ = some (.int .u8 b) := by rw [HB.out.cell (p := ⟨cb, off + k, none⟩) lt]; exact hbc
        clear hb hbc
        go_wp2_with fail
        go_still_tail 15, (by kernel_rfl)
        have hH : 0 ≤ IntKind.u64.wrap (IntKind.u64.wrap (IntKind.u64.wrap (H * 1099511628211) + IntKind.u64.wrap b) + 5) ∧ IntKind.u64.wrap (IntKind.u64.wrap (IntKind.u64.wrap (H * 1099511628211) + IntKind.u64.wrap b) + 5) ≤ 18446744073709551615 := by
          rw [IntKind.wrap_u64]; omega
        generalize IntKind.u64.wrap (IntKind.u64.wrap (IntKind.u64.wrap (H * 1099511628211) + IntKind.u64.wrap b) + 5) = H9 at *
        generalize IntKind.u64.wrap (IntKind.u64.wrap (H * 1099511628211) + IntKind.u64.wrap b) = H8 at *
        generalize IntKind.u64.wrap (H * 1099511628211) = H7 at *
        go_wp2_with fail
        refine ⟨⟨k + 1, H9, by omega, by push_cast; rfl, hH.1, hH.2, Lib.hid ?_, Lib.hid ((HB.out.setCell (Nat.le_refl _) _).drew), ?_⟩, ?_⟩
        · show (wr.setCell ⟨w.heap.size, 2, none⟩ (.int .u64 H9)).heap[w.heap.size]? = _
          rw [heap_setCell_same _ _ _ _ _ _ HG.out]
          rfl
        · show w.heap.size < (wr.setCell ⟨w.heap.size, 2, none⟩ (.int .u64 H9)).heap.size
          rw [World.size_setCell]; exact hs
        · have e : ((k : Int) + 1).toNat = k + 1 := by omega
          show len - ((k : Int) + 1).toNat < len - ((k : Int)).toNat
          rw [e, Int.toNat_natCast]; omega
    · go_wp2_with fail
      go_ret
      exact thrown ad len cap w wr H hl HC.out HG.out HB.out hs H0 H1
end Go.Proofs.Ytjmfffgddmnkmac
