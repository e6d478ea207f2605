/- The draws of a side and of an index; codes in later worlds. Condition: a source. The draw of a phase's number leaves a number. Condition: a code that can be read. -/
import Derived.Test.YtjmfffgddmnkmabSou
namespace Go.Proofs.Ytjmfffgddmnkmab
open Go Go.RowKit

/-- what a source alone was turned for is below as it was -/
theorem Own.after {p n : Nat} {a b c : World} (h : Own p b c) (k : Below n a b) (hp : n ≤ p) (hn : n ≤ a.heap.size) : Below n a c :=
  ⟨h.os.trans k.os, h.tape.trans k.tape, h.output.trans k.output, Nat.le_trans k.size h.size,
   fun i hi => (h.block i (by have := k.size; omega) (by omega)).trans (k.block i hi)⟩

/-- a side was drawn -/
def SideD (p : Nat) (w : World) (e : Ending) (w' : World) : Prop :=
  ∃ n : Int, e = .returned (.int .i64 n) ∧ (n = 1 ∨ n = 2 ∨ n = 4 ∨ n = 8) ∧ Src p w' ∧ Own p w w'

set_option maxRecDepth 100000 in
set_option maxHeartbeats 400000 in
theorem drawSide_any (p : Nat) (w : World) (hs : Src p w) : Calls Try.prog 83 #[.pointer (some ⟨p, 0, none⟩)] w (SideD p w) := by
  go_enter Try.func83, Try.ntmps83
  go_wp2_with fail
  refine (pick_lit p [1, 2, 2, 4, 4, 4, 8] w hs (by simp) (by simp)).mono ?_
  rintro e w2 ⟨n, hn, rfl, s2, o2⟩
  go_wp2_with fail
  go_ret
  have hn' : n = 1 ∨ n = 2 ∨ n = 4 ∨ n = 8 := by simp at hn; omega
  exact ⟨n, rfl, hn', s2, o2⟩

/-- an index was drawn -/
def IdxD (p : Nat) (w : World) (e : Ending) (w' : World) : Prop :=
  ∃ k : Int, e = .returned (.int .i64 k) ∧ (-4611686018427387904 ≤ k ∧ k ≤ 1099511627776) ∧ Src p w' ∧ Own p w w'

theorem Code.alloc {ad : Option Addr} {len : Nat} {w : World} (h : Code ad len w) (o : Obj) : Code ad len (w.alloc o) := by
  refine ⟨h.1, fun h0 => ?_⟩
  obtain ⟨cb, off, e, lt, hb⟩ := h.2 h0
  refine ⟨cb, off, e, by rw [size_al]; omega, fun i hi => ?_⟩
  obtain ⟨y, y0, y1, hy⟩ := hb i hi
  exact ⟨y, y0, y1, by rw [World.cell?_of_block (w := w) (heap_alloc_old _ _ lt)]; exact hy⟩

theorem Code.below {ad : Option Addr} {len : Nat} {w w' : World} (h : Code ad len w) (b : Below w.heap.size w w') : Code ad len w' := by
  refine ⟨h.1, fun h0 => ?_⟩
  obtain ⟨cb, off, e, lt, hb⟩ := h.2 h0
  refine ⟨cb, off, e, Nat.lt_of_lt_of_le lt b.size, fun i hi => ?_⟩
  obtain ⟨y, y0, y1, hy⟩ := hb i hi
  exact ⟨y, y0, y1, by rw [World.cell?_of_block (w := w) (b.block cb lt)]; exact hy⟩

set_option maxRecDepth 100000 in
set_option maxHeartbeats 400000 in
theorem big_any (ad : Option Addr) (len cap : Nat) (w : World) : Calls Try.prog 13 #[.slice ad len cap] w (fun e w' => e = .returned (.bool (decide (4096 < len))) ∧ w' = w) := by
  by_cases h : 4096 < len
  · have hd : decide (4096 < len) = true := by simp [h]
    rw [hd]
    go_enter Try.func13, Try.ntmps13
    go_wp2_with fail
    go_ret
    simp
    omega
  · have hd : decide (4096 < len) = false := by simp [h]
    rw [hd]
    go_enter Try.func13, Try.ntmps13
    go_wp2_with fail
    go_ret
    simp
    omega
end Go.Proofs.Ytjmfffgddmnkmab

namespace Go.Proofs.Ytjmfffgddmnkmab
open Go Go.RowKit

theorem in_pick {r q k : Int} (hr : 0 ≤ r ∧ r < 64) (hq : 0 ≤ q ∧ q < 200) (hk : k ∈ [r, q - 100, 4611686018427387904, -4611686018427387904, -9223372036854775808]) :
    -9223372036854775808 ≤ k ∧ k ≤ 9223372036854775807 := by
  simp at hk
  omega

end Go.Proofs.Ytjmfffgddmnkmab
