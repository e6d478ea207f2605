/- The draws of a side and of an index; codes in later worlds. Condition: a source. -/
import Derived.Test.YtjmfffgddmnkmacSo2
namespace Go.Proofs.Ytjmfffgddmnkmac
open Go Go.RowKit

/-- what a source alone was turned for is below as it was -/
theorem Trn.after {p n : Nat} {a b c : World} (h : Trn p b c) (k : Below n a b) (hp : n ≤ p) (hn : n ≤ a.heap.size) : Below n a c :=
  ⟨h.os.trans k.os, h.tape.trans k.tape, h.output.trans k.output, Nat.le_trans k.size h.size,
   fun i hi => (h.block i (by have := k.size; omega) (by omega)).trans (k.block i hi)⟩

/-- a side was drawn -/
def SideD (p : Nat) (w : World) (e : Ending) (w' : World) : Prop :=
  ∃ n : Int, e = .returned (.int .i64 n) ∧ (n = 1 ∨ n = 2 ∨ n = 4 ∨ n = 8) ∧ Src p w' ∧ Trn p w w'

set_option maxRecDepth 100000 in
set_option maxHeartbeats 400000 in
theorem drawSide_any (p : Nat) (w : World) (hs : Src p w) : Calls Try.prog 51 #[.pointer (some ⟨p, 0, none⟩)] w (SideD p w) := by
  go_enter Try.func51, Try.ntmps51
  go_wp2_with fail
  refine (pick_lit p [1, 2, 2, 4, 4, 4, 8] w hs (by simp) (by simp)).mono ?_
  rintro e w2 ⟨n, hn, rfl, s2, o2⟩
  go_wp2_with fail
  go_ret
  have hn' : n = 1 ∨ n = 2 ∨ n = 4 ∨ n = 8 := by simp at hn; omega
  exact ⟨n, rfl, hn', s2, o2⟩

/-- an index was drawn -/
def IdxD (p : Nat) (w : World) (e : Ending) (w' : World) : Prop :=
  ∃ k : Int, e = .returned (.int .i64 k) ∧ (-4611686018427387904 ≤ k ∧ k ≤ 1099511627776) ∧ Src p w' ∧ Trn p w w'

set_option maxRecDepth 100000 in
set_option maxHeartbeats 400000 in
theorem nearI_any (p : Nat) (m : Int) (h0 : 0 ≤ m) (h1 : m ≤ 1048576) (w : World) (hs : Src p w) : Calls Try.prog 55 #[.pointer (some ⟨p, 0, none⟩), .int .i64 m] w (IdxD p w) := by
  have hw : IntKind.i64.wrap (m + 1) = m + 1 := IntWalk.i64_in _ (by omega)
  go_enter Try.func55, Try.ntmps55
  go_wp2_with fail
  refine (next_any p 14 w hs).mono ?_
  rintro e w1 ⟨r, rfl, r0, r1, s1, o1⟩
  by_cases hr : r = 0
  · subst hr
    go_wp2_with fail
    refine (pick_lit p [-1, m + 1, 1099511627776, -4611686018427387904] _ s1 (by simp) (by simp)).mono ?_
    rintro e w2 ⟨k, hk, rfl, s2, o2⟩
    go_wp2_with fail
    go_ret
    have hk' : -4611686018427387904 ≤ k ∧ k ≤ 1099511627776 := by simp at hk; omega
    exact ⟨k, rfl, hk', s2, o1.trans o2⟩
  · have hr' : (r == 0) = false := by simp [hr]
    go_wp2_with fail
    refine (next_any p (m + 1) _ s1).mono ?_
    rintro e w2 ⟨k, rfl, k0, k1, s2, o2⟩
    go_wp2_with fail
    go_ret
    exact ⟨k, rfl, by omega, s2, o1.trans o2⟩

theorem Code.alloc {ad : Option Addr} {len : Nat} {w : World} (h : Code ad len w) (o : Obj) : Code ad len (w.alloc o) := by
  refine ⟨h.1, fun h0 => ?_⟩
  obtain ⟨cb, off, e, lt, hb⟩ := h.2 h0
  refine ⟨cb, off, e, by rw [size_al]; omega, fun i hi => ?_⟩
  obtain ⟨y, y0, y1, hy⟩ := hb i hi
  exact ⟨y, y0, y1, by rw [World.cell?_of_block (w := w) (heap_alloc_old _ _ lt)]; exact hy⟩

theorem Code.below {ad : Option Addr} {len : Nat} {w w' : World} (h : Code ad len w) (b : Below w.heap.size w w') : Code ad len w' := by
  refine ⟨h.1, fun h0 => ?_⟩
  obtain ⟨cb, off, e, lt, hb⟩ := h.2 h0
  refine ⟨cb, off, e, Nat.lt_of_lt_of_le lt b.size, fun i hi => ?_⟩
  obtain ⟨y, y0, y1, hy⟩ := hb i hi
  exact ⟨y, y0, y1, by rw [World.cell?_of_block (w := w) (b.block cb lt)]; exact hy⟩

set_option maxRecDepth 100000 in
set_option maxHeartbeats 400000 in
theorem big_any (ad : Option Addr) (len cap : Nat) (w : World) : Calls Try.prog 5 #[.slice ad len cap] w (fun e w' => e = .returned (.bool (decide (4096 < len))) ∧ w' = w) := by
  by_cases h : 4096 < len
  · have hd : decide (4096 < len) = true := by simp [h]
    rw [hd]
    go_enter Try.func5, Try.ntmps5
    go_wp2_with fail
    go_ret
    simp
    omega
  · have hd : decide (4096 < len) = false := by simp [h]
    rw [hd]
    go_enter Try.func5, Try.ntmps5
    go_wp2_with fail
    go_ret
    simp
    omega
end Go.Proofs.Ytjmfffgddmnkmac
