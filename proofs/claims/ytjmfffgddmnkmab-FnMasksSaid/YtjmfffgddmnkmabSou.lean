/- The source that draws are taken from: how it is made, what it gives, and a choice by it. Condition: a code that can be read. -/
import Derived.Test.YtjmfffgddmnkmabM0
import Derived.Laws.BitsAll
import Derived.Deep.QuietTactic
import Derived.BigQuiet
import Derived.Outline
import Derived.StillTailTactics
namespace Go.Proofs.Ytjmfffgddmnkmab
open Go Go.RowKit

/-! What the draws' source is in memory, and what a draw does to it. Condition: none. -/

/-- memory is as it was but for the block p, and for new blocks -/
structure Own (p : Nat) (w w' : World) : Prop where
  os : w'.os = w.os
  tape : w'.tape = w.tape
  output : w'.output = w.output
  size : w.heap.size ≤ w'.heap.size
  block : ∀ k, k < w.heap.size → k ≠ p → w'.heap[k]? = w.heap[k]?

theorem Own.refl (p : Nat) (w : World) : Own p w w := ⟨rfl, rfl, rfl, Nat.le_refl _, fun _ _ _ => rfl⟩
theorem Own.trans {p : Nat} {a b c : World} (h : Own p a b) (k : Own p b c) : Own p a c :=
  ⟨k.os.trans h.os, k.tape.trans h.tape, k.output.trans h.output, Nat.le_trans h.size k.size,
   fun i hi hp => (k.block i (Nat.lt_of_lt_of_le hi h.size) hp).trans (h.block i hi hp)⟩
theorem Own.drewN {p : Nat} {a w : World} (h : Own p a w) (n : Nat) : Own p a (w.drewN n) := ⟨h.os, h.tape, h.output, h.size, h.block⟩
theorem Own.drew {p : Nat} {a w : World} (h : Own p a w) : Own p a w.drew := ⟨h.os, h.tape, h.output, h.size, h.block⟩
theorem Own.alloc {p : Nat} {a w : World} (h : Own p a w) (o : Obj) : Own p a (w.alloc o) :=
  ⟨h.os, h.tape, h.output, by rw [size_al]; have := h.size; omega, fun k hk hp => by
    rw [heap_alloc_old _ _ (Nat.lt_of_lt_of_le hk h.size)]; exact h.block k hk hp⟩
theorem Own.setCell {p : Nat} {a w : World} (h : Own p a w) (j : Nat) (v : Value) : Own p a (w.setCell ⟨p, j, none⟩ v) :=
  ⟨h.os, h.tape, h.output, by rw [World.size_setCell]; exact h.size, fun k hk hp => by
    rw [heap_setCell_other _ _ _ _ hp]; exact h.block k hk hp⟩
theorem Own.setNew {p : Nat} {a w : World} (h : Own p a w) (b j : Nat) (v : Value) (hb : a.heap.size ≤ b) : Own p a (w.setCell ⟨b, j, none⟩ v) :=
  ⟨h.os, h.tape, h.output, by rw [World.size_setCell]; exact h.size, fun k hk hp => by
    rw [heap_setCell_other _ _ _ _ (by show k ≠ b; omega)]; exact h.block k hk hp⟩

/-- the source lies in block p: the code's bytes can be read, as far as they are long -/
def Src (p : Nat) (w : World) : Prop :=
  ∃ (len cap pos : Nat) (ad : Option Addr) (h : Int), w.heap[p]? = some (.cells #[.slice ad len cap, .int .i64 pos, .int .u64 h] 124 (0, 0)) ∧
    pos ≤ len ∧ len ≤ 140737488351232 ∧ 0 ≤ h ∧ h ≤ 18446744073709551615 ∧
    (0 < len → ∃ cb off, ad = some ⟨cb, off, none⟩ ∧ cb ≠ p ∧ cb < w.heap.size ∧ ∀ i, i < len → ∃ b : Int, 0 ≤ b ∧ b ≤ 255 ∧ w.cell? ⟨cb, off + i, none⟩ = some (.int .u8 b))

/-! ### the numbers of a draw -/
section
theorem run_mul64 (x y : Int) : ∃ r : Int, 0 ≤ r ∧ r ≤ 18446744073709551615 ∧ ∀ w, (binOp .mul 122 (.int .u64 x) (.int .u64 y)).run Try.prog w = .ok (.int .u64 r) w := by
  refine ⟨IntKind.u64.wrap (x * y), ?_, ?_, fun w => by simp [binOp, Op.intArith]⟩
  · rw [IntKind.wrap_u64]; omega
  · rw [IntKind.wrap_u64]; omega
theorem run_add64 (x y : Int) : ∃ r : Int, 0 ≤ r ∧ r ≤ 18446744073709551615 ∧ ∀ w, (binOp .add 122 (.int .u64 x) (.int .u64 y)).run Try.prog w = .ok (.int .u64 r) w := by
  refine ⟨IntKind.u64.wrap (x + y), ?_, ?_, fun w => by simp [binOp, Op.intArith]⟩
  · rw [IntKind.wrap_u64]; omega
  · rw [IntKind.wrap_u64]; omega
theorem run_and31 (x : Int) : ∃ r : Int, 0 ≤ r ∧ r ≤ 2147483647 ∧ ∀ w, (binOp .and 122 (.int .u64 x) (.int .u64 2147483647)).run Try.prog w = .ok (.int .u64 r) w := by
  refine ⟨IntKind.u64.wrap ((BitVec.ofInt 64 x &&& BitVec.ofInt 64 2147483647).toNat), ?_, ?_, fun w => by simp [binOp, Op.intBits]; rfl⟩
  · rw [IntKind.wrap_u64]; omega
  · have h : (BitVec.ofInt 64 x &&& BitVec.ofInt 64 2147483647).toNat ≤ 2147483647 := by
      rw [BitVec.toNat_and]
      exact Nat.and_le_right
    rw [IntKind.wrap_u64]
    omega
theorem run_shr33 (x : Int) (hx : 0 ≤ x) (hx' : x ≤ 18446744073709551615) : ∃ r : Int, 0 ≤ r ∧ r ≤ 18446744073709551615 ∧ ∀ w, (binOp .shr 122 (.int .u64 x) (.int .u64 33)).run Try.prog w = .ok (.int .u64 r) w := by
  refine ⟨x.fdiv (2 ^ 33), ?_, ?_, fun w => by simp [binOp, Op.shift, IntKind.bits]⟩
  · rw [Int.fdiv_eq_ediv_of_nonneg _ (by omega)]; omega
  · rw [Int.fdiv_eq_ediv_of_nonneg _ (by omega)]; omega
end

/-! A draw hands back a number below n and turns the source alone. Condition: a source. -/

/-- what a draw of a number below n leaves -/
def Drawn (p : Nat) (n : Int) (w : World) (e : Ending) (w' : World) : Prop :=
  ∃ r : Int, e = .returned (.int .i64 r) ∧ 0 ≤ r ∧ (r < n ∨ r = 0) ∧ Src p w' ∧ Own p w w'

theorem next_low (p : Nat) (n : Int) (w : World) (hs : Src p w) (hn : n < 1) : Calls Try.prog 82 #[.pointer (some ⟨p, 0, none⟩), .int .i64 n] w (Drawn p n w) := by
  have HS := Lib.hid hs
  clear hs
  go_enter Try.func82, Try.ntmps82
  go_wp2
  go_ret
  exact ⟨0, rfl, by omega, .inr rfl, HS.out, Own.refl _ _⟩

theorem and31 (x : Int) : 0 ≤ wrap64 (bits BinOp.and IntKind.u64 x 2147483647) ∧ wrap64 (bits BinOp.and IntKind.u64 x 2147483647) ≤ 2147483647 := by
  have h : (BitVec.ofInt 64 x &&& BitVec.ofInt 64 2147483647).toNat ≤ 2147483647 := by
    rw [BitVec.toNat_and]
    exact Nat.and_le_right
  have e : bits BinOp.and IntKind.u64 x 2147483647 = IntKind.u64.wrap (BitVec.ofInt 64 x &&& BitVec.ofInt 64 2147483647).toNat := rfl
  rw [e, IntKind.wrap_u64]
  unfold wrap64
  omega

set_option maxHeartbeats 400000 in
theorem next_high (p : Nat) (n : Int) (w : World) (hs : Src p w) (hn : ¬ n < 1) : Calls Try.prog 82 #[.pointer (some ⟨p, 0, none⟩), .int .i64 n] w (Drawn p n w) := by
  obtain ⟨len, cap, pos, ad, h, hg, hpl, hl, hh0, hh1, hc⟩ := hs
  have c0 : w.cell? ⟨p, 0, none⟩ = some (.slice ad len cap) := by rw [cell_of_row _ _ _ _ _ _ hg]; rfl
  have c1 : w.cell? ⟨p, 1, none⟩ = some (.int .i64 pos) := by rw [cell_of_row _ _ _ _ _ _ hg]; rfl
  have c2 : w.cell? ⟨p, 2, none⟩ = some (.int .u64 h) := by rw [cell_of_row _ _ _ _ _ _ hg]; rfl
  have f2 : w.frozen? ⟨p, 2, none⟩ = false := frozen_of_row _ _ _ _ _ hg
  have f1 : w.frozen? ⟨p, 1, none⟩ = false := frozen_of_row _ _ _ _ _ hg
  have HG := Lib.hid hg
  have HC := Lib.hid hc
  clear hg hc
  go_enter Try.func82, Try.ntmps82
  go_wp2_with fail
  have hX := and31 (IntKind.u64.wrap (IntKind.u64.wrap (h * 6364136223846793005) + 1442695040888963407) / 8589934592)
  generalize wrap64 (bits BinOp.and IntKind.u64 (IntKind.u64.wrap (IntKind.u64.wrap (h * 6364136223846793005) + 1442695040888963407) / 8589934592) 2147483647) = X at *
  generalize bits BinOp.and IntKind.u64 (IntKind.u64.wrap (IntKind.u64.wrap (h * 6364136223846793005) + 1442695040888963407) / 8589934592) 2147483647 = X2 at *
  generalize IntKind.u64.wrap (IntKind.u64.wrap (h * 6364136223846793005) + 1442695040888963407) / 8589934592 = X3 at *
  have hH : 0 ≤ IntKind.u64.wrap (IntKind.u64.wrap (h * 6364136223846793005) + 1442695040888963407) ∧ IntKind.u64.wrap (IntKind.u64.wrap (h * 6364136223846793005) + 1442695040888963407) ≤ 18446744073709551615 := by
    rw [IntKind.wrap_u64]; omega
  generalize IntKind.u64.wrap (IntKind.u64.wrap (h * 6364136223846793005) + 1442695040888963407) = H at *
  generalize IntKind.u64.wrap (h * 6364136223846793005) = H2 at *
  have g1 : (w.setCell ⟨p, 2, none⟩ (.int .u64 H)).heap[p]? = some (.cells #[.slice ad len cap, .int .i64 pos, .int .u64 H] 124 (0, 0)) := by
    rw [heap_setCell_same _ _ _ _ _ _ HG.out]; rfl
  have o1 : Own p w (w.setCell ⟨p, 2, none⟩ (.int .u64 H)) := (Own.refl p w).setCell 2 _
  have k1 : ∀ b j, b ≠ p → (w.setCell ⟨p, 2, none⟩ (.int .u64 H)).cell? ⟨b, j, none⟩ = w.cell? ⟨b, j, none⟩ := fun b j hb => by
    unfold World.cell?
    rw [heap_setCell_other _ _ _ _ hb]
  have s1 : (w.setCell ⟨p, 2, none⟩ (.int .u64 H)).heap.size = w.heap.size := World.size_setCell _ _ _
  generalize w.setCell ⟨p, 2, none⟩ (.int .u64 H) = W at *
  have d0 : W.cell? ⟨p, 0, none⟩ = some (.slice ad len cap) := by rw [cell_of_row _ _ _ _ _ _ g1]; rfl
  have d1 : W.cell? ⟨p, 1, none⟩ = some (.int .i64 pos) := by rw [cell_of_row _ _ _ _ _ _ g1]; rfl
  have e1 : W.frozen? ⟨p, 1, none⟩ = false := frozen_of_row _ _ _ _ _ g1
  have G1 := Lib.hid g1
  have O1 := Lib.hid o1
  have K1 := Lib.hid k1
  have S1 := Lib.hid s1
  clear g1 o1 k1 s1 c0 c1 c2 f1 f2
  have HT : Hid (0 < len → ∃ cb off, ad = some ⟨cb, off, none⟩ ∧ cb ≠ p ∧ cb < W.heap.size ∧ ∀ i, i < len → ∃ b : Int, 0 ≤ b ∧ b ≤ 255 ∧ W.cell? ⟨cb, off + i, none⟩ = some (.int .u8 b)) := Lib.hid fun h0 => by
    obtain ⟨cb, off, e, ne, lt, hb⟩ := HC.out h0
    exact ⟨cb, off, e, ne, by rw [S1.out]; exact lt, fun i hi => by rw [K1.out _ _ ne]; exact hb i hi⟩
  have hm : 0 < n := by omega
  by_cases hlt : pos < len
  · obtain ⟨cb, off, rfl, ne, lt, hb⟩ := HT.out (by omega)
    obtain ⟨b, b0, b1, hbc⟩ := hb pos hlt
    have hd : decide (pos < len) = true := by simp; omega
    have hw : IntKind.i64.wrap (X + b) = X + b := IntWalk.i64_in _ (by omega)
    clear hb
    go_quiet (fail)
    go_wp2_with fail
    go_quiet (fail)
    go_wp2
    go_ret
    refine ⟨_, rfl, Int.emod_nonneg _ (by omega), .inl (Int.emod_lt_of_pos _ hm), ?_, (O1.out.drewN _).setCell 1 _⟩
    refine ⟨len, cap, pos + 1, some ⟨cb, off, none⟩, H, ?_, by omega, hl, hH.1, hH.2, fun _ => ⟨cb, off, rfl, ne, ?_, fun i hi => ?_⟩⟩
    · rw [heap_setCell_same _ _ _ _ _ _ (show ((W.drewN _).heap[p]? = _) from G1.out)]
      rfl
    · rw [World.size_setCell]; exact lt
    · obtain ⟨b, b0, b1, hb⟩ := HT.out (by omega) |>.elim fun cb' h => h.elim fun off' h => by
        obtain ⟨e, _, _, hb⟩ := h
        cases e
        exact hb i hi
      refine ⟨b, b0, b1, ?_⟩
      unfold World.cell?
      rw [heap_setCell_other _ _ _ _ ne]
      exact hb
  · have hd : decide (pos < len) = false := by simp; omega
    go_quiet (fail)
    go_wp2
    go_ret
    exact ⟨_, rfl, Int.emod_nonneg _ (by omega), .inl (Int.emod_lt_of_pos _ hm), ⟨len, cap, pos, ad, H, G1.out, hpl, hl, hH.1, hH.2, HT.out⟩, O1.out.drewN _⟩

theorem next_any (p : Nat) (n : Int) (w : World) (hs : Src p w) : Calls Try.prog 82 #[.pointer (some ⟨p, 0, none⟩), .int .i64 n] w (Drawn p n w) := by
  by_cases hn : n < 1
  · exact next_low p n w hs hn
  · exact next_high p n w hs hn

/-! The source of a code is a new block; all older memory is as it was. Condition: a code that can be read. -/

/-- a code's bytes can be read -/
def Code (ad : Option Addr) (len : Nat) (w : World) : Prop :=
  len ≤ 140737488351232 ∧ (0 < len → ∃ cb off, ad = some ⟨cb, off, none⟩ ∧ cb < w.heap.size ∧ ∀ i, i < len → ∃ b : Int, 0 ≤ b ∧ b ≤ 255 ∧ w.cell? ⟨cb, off + i, none⟩ = some (.int .u8 b))

/-- what making a source leaves -/
def Made (w : World) (e : Ending) (w' : World) : Prop :=
  ∃ p, e = .returned (.pointer (some ⟨p, 0, none⟩)) ∧ w.heap.size ≤ p ∧ p < w'.heap.size ∧ Src p w' ∧ Below w.heap.size w w'

theorem made (ad : Option Addr) (len cap : Nat) (w wr : World) (H : Int) (hl : len ≤ 140737488351232)
    (hc : 0 < len → ∃ cb off, ad = some ⟨cb, off, none⟩ ∧ cb < w.heap.size ∧ ∀ i, i < len → ∃ b : Int, 0 ≤ b ∧ b ≤ 255 ∧ w.cell? ⟨cb, off + i, none⟩ = some (.int .u8 b))
    (hg : wr.heap[w.heap.size]? = some (.cells #[.slice ad len cap, .int .i64 0, .int .u64 H] 124 (0, 0)))
    (hb : Below w.heap.size w wr) (hs : w.heap.size < wr.heap.size) (h0 : 0 ≤ H) (h1 : H ≤ 18446744073709551615) :
    Made w (.returned (.pointer (some ⟨w.heap.size, 0, none⟩))) wr := by
  refine ⟨w.heap.size, rfl, Nat.le_refl _, hs, ⟨len, cap, 0, ad, H, hg, Nat.zero_le _, hl, h0, h1, fun hp => ?_⟩, hb⟩
  obtain ⟨cb, off, e, lt, hx⟩ := hc hp
  refine ⟨cb, off, e, by omega, by omega, fun i hi => ?_⟩
  rw [hb.cell (p := ⟨cb, off + i, none⟩) lt]
  exact hx i hi

set_option maxRecDepth 100000 in
set_option maxHeartbeats 400000 in
theorem from_any (ad : Option Addr) (len cap : Nat) (w : World) (hc : Code ad len w) : Calls Try.prog 80 #[.slice ad len cap] w (Made w) := by
  obtain ⟨hl, hc⟩ := hc
  have HC := Lib.hid hc
  clear hc
  have hw : IntKind.u64.wrap (len : Int) = len := by rw [IntKind.wrap_u64]; omega
  go_enter Try.func80, Try.ntmps80
  go_wp2_with fail
  go_loopw [4] (fun i wr => ∃ (k : Nat) (H : Int), k ≤ len ∧ i = .int .i64 k ∧ 0 ≤ H ∧ H ≤ 18446744073709551615 ∧
      Hid (wr.heap[w.heap.size]? = some (.cells #[.slice ad len cap, .int .i64 0, .int .u64 H] 124 (0, 0))) ∧ Hid (Below w.heap.size w wr) ∧ w.heap.size < wr.heap.size) (fun i _ => len - (intOf i).toNat)
  case atStart => exact ⟨0, 10331 + len, by omega, rfl, by omega, by omega, Lib.hid (h1_0 _ _), Lib.hid ((Below.refl _ _).alloc (Nat.le_refl _) _), by rw [size_al]; omega⟩
  case round =>
    obtain ⟨k, H, hk, rfl, H0, H1, HG, HB, hs⟩ := hrel
    by_cases hlt : k < len
    · by_cases hlt2 : k < 4096
      · obtain ⟨cb, off, rfl, lt, hb⟩ := HC.out (by omega)
        obtain ⟨b, b0, b1, hbc⟩ := hb k hlt
        have c2 : wr.cell? ⟨w.heap.size, 2, none⟩ = some (.int .u64 H) := by rw [cell_of_row _ _ _ _ _ _ HG.out]; rfl
        have f2 : wr.frozen? ⟨w.heap.size, 2, none⟩ = false := frozen_of_row _ _ _ _ _ HG.out
        have hbc' : wr.cell? ⟨cb, off + k, none⟩ = some (.int .u8 b) := by rw [HB.out.cell (p := ⟨cb, off + k, none⟩) lt]; exact hbc
        clear hb hbc
        go_wp2_with fail
        go_still_tail 15, (by kernel_rfl)
        have hH : 0 ≤ IntKind.u64.wrap (IntKind.u64.wrap (IntKind.u64.wrap (H * 1099511628211) + IntKind.u64.wrap b) + 41) ∧ IntKind.u64.wrap (IntKind.u64.wrap (IntKind.u64.wrap (H * 1099511628211) + IntKind.u64.wrap b) + 41) ≤ 18446744073709551615 := by
          rw [IntKind.wrap_u64]; omega
        generalize IntKind.u64.wrap (IntKind.u64.wrap (IntKind.u64.wrap (H * 1099511628211) + IntKind.u64.wrap b) + 41) = H9 at *
        generalize IntKind.u64.wrap (IntKind.u64.wrap (H * 1099511628211) + IntKind.u64.wrap b) = H8 at *
        generalize IntKind.u64.wrap (H * 1099511628211) = H7 at *
        go_wp2_with fail
        refine ⟨⟨k + 1, H9, by omega, by push_cast; rfl, hH.1, hH.2, Lib.hid ?_, Lib.hid ((HB.out.setCell (Nat.le_refl _) _).drew), ?_⟩, ?_⟩
        · show (wr.setCell ⟨w.heap.size, 2, none⟩ (.int .u64 H9)).heap[w.heap.size]? = _
          rw [heap_setCell_same _ _ _ _ _ _ HG.out]
          rfl
        · show w.heap.size < (wr.setCell ⟨w.heap.size, 2, none⟩ (.int .u64 H9)).heap.size
          rw [World.size_setCell]; exact hs
        · have e : ((k : Int) + 1).toNat = k + 1 := by omega
          show len - ((k : Int) + 1).toNat < len - ((k : Int)).toNat
          rw [e, Int.toNat_natCast]; omega
      · go_wp2_with fail
        go_ret
        exact made ad len cap w wr H hl HC.out HG.out HB.out hs H0 H1
    · go_wp2_with fail
      go_ret
      exact made ad len cap w wr H hl HC.out HG.out HB.out hs H0 H1
/-! A pick hands back one of its numbers and turns the source alone. Condition: a source, numbers apart from it. -/

/-- what a pick leaves -/
def Picked (p : Nat) (xs : List Int) (w : World) (e : Ending) (w' : World) : Prop :=
  ∃ r : Int, r ∈ xs ∧ e = .returned (.int .i64 r) ∧ Src p w' ∧ Own p w w'

theorem Own.cell {p : Nat} {w w' : World} (h : Own p w w') {b j : Nat} (hb : b ≠ p) (hl : b < w.heap.size) : w'.cell? ⟨b, j, none⟩ = w.cell? ⟨b, j, none⟩ :=
  World.cell?_of_block (w := w) (h.block b hl hb)

set_option maxRecDepth 100000 in
set_option maxHeartbeats 400000 in
theorem pick_any (p lb L cap : Nat) (xs : List Int) (w : World) (hs : Src p w) (h0 : 0 < L) (hL : L ≤ 1000) (hne : lb ≠ p) (hlt : lb < w.heap.size)
    (hc : ∀ i, i < L → ∃ r, r ∈ xs ∧ w.cell? ⟨lb, i, none⟩ = some (.int .i64 r)) :
    Calls Try.prog 123 #[.pointer (some ⟨p, 0, none⟩), .slice (some ⟨lb, 0, none⟩) L cap] w (Picked p xs w) := by
  have HC := Lib.hid hc
  have HS := Lib.hid hs
  clear hc hs
  go_enter Try.func123, Try.ntmps123
  go_wp2_with fail
  refine (next_any p L w HS.out).mono ?_
  rintro e w' ⟨r, rfl, r0, r1, s', o'⟩
  have hr : r < L := by omega
  obtain ⟨k, rfl⟩ : ∃ k : Nat, r = k := ⟨r.toNat, by omega⟩
  obtain ⟨x, hx, hcx⟩ := HC.out k (by omega)
  have hcx' : w'.cell? ⟨lb, k, none⟩ = some (.int .i64 x) := by rw [o'.cell hne hlt]; exact hcx
  have S' := Lib.hid s'
  have O' := Lib.hid o'
  clear s' o' hcx
  go_wp2_with fail
  go_ret
  exact ⟨x, hx, rfl, S'.out, O'.out⟩

theorem Src.lt {p : Nat} {w : World} (h : Src p w) : p < w.heap.size := by
  obtain ⟨_, _, _, _, _, hg, _⟩ := h
  by_cases hl : p < w.heap.size
  · exact hl
  · rw [Array.getElem?_eq_none (by omega)] at hg; cases hg

theorem Src.alloc {p : Nat} {w : World} (h : Src p w) (o : Obj) : Src p (w.alloc o) := by
  have hl := h.lt
  obtain ⟨len, cap, pos, ad, x, hg, a, b, c, d, hc⟩ := h
  refine ⟨len, cap, pos, ad, x, by rw [heap_alloc_old _ _ hl]; exact hg, a, b, c, d, fun h0 => ?_⟩
  obtain ⟨cb, off, e, ne, lt, hb⟩ := hc h0
  refine ⟨cb, off, e, ne, by rw [size_al]; omega, fun i hi => ?_⟩
  obtain ⟨y, y0, y1, hy⟩ := hb i hi
  exact ⟨y, y0, y1, by rw [World.cell?_of_block (w := w) (heap_alloc_old _ _ lt)]; exact hy⟩

/-- a pick among numbers written out -/
theorem pick_lit (p : Nat) (xs : List Int) (w : World) (hs : Src p w) (h0 : 0 < xs.length) (hL : xs.length ≤ 1000) :
    Calls Try.prog 123 #[.pointer (some ⟨p, 0, none⟩), .slice (some ⟨w.heap.size, 0, none⟩) xs.length xs.length] (w.alloc (.cells (xs.map (Value.int .i64)).toArray 2 (0, 0))) (Picked p xs w) := by
  have hl := hs.lt
  refine (pick_any p w.heap.size xs.length xs.length xs _ (hs.alloc _) h0 hL (by omega) (by rw [size_al]; omega) fun i hi => ?_).mono ?_
  · refine ⟨xs[i], List.getElem_mem _, ?_⟩
    rw [cell_of_row _ _ _ _ _ _ (h1_0 _ _)]
    simp [hi]
  · rintro e w' ⟨r, hr, rfl, s', o'⟩
    exact ⟨r, hr, rfl, s', ((Own.refl _ _).alloc _).trans o'⟩
end Go.Proofs.Ytjmfffgddmnkmab
