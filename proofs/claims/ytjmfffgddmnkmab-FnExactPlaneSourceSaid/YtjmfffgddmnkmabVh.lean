/- What the laws ask of the marks in a list of waves. Condition: sixteen waves at most. -/
import Derived.Test.YtjmfffgddmnkmabVc
namespace Go.Proofs.Ytjmfffgddmnkmab
open Go Go.RowKit

theorem CameV.mark {n : Nat} {a : Option Addr} {w : World} (h : CameV a n (marksV n) w) (h0 : 0 < n) : ∃ b off, a = some ⟨b, off, none⟩ ∧ ∀ q, q < n * 65 → w.cell? ⟨b, off + q, none⟩ = some (mkV q) := by
  obtain ⟨b, off, ha, _, hc⟩ := h.2 h0
  exact ⟨b, off, ha, fun q hq => (hc q hq).trans (marksV_get n q hq)⟩

set_option maxRecDepth 100000 in
set_option maxHeartbeats 1600000 in
theorem heldWs_any (a : Option Addr) (n c : Nat) (w : World) (h : CameV a n (marksV n) w) (hn : n ≤ 16) :
    Calls Try.prog 61 #[.slice a n c, .int .i64 1] w fun e w' => e = .returned (.int .i64 (1 + ((n * 65 : Nat) : Int))) ∧ w = w' := by
  have H1 := Lib.hid (fun h0 => CameV.mark h h0)
  clear h
  go_enter Try.func61, Try.ntmps61
  go_wp2
  go_loopw [1, 5] (fun p i wr => ∃ k : Nat, k ≤ n ∧ i = .int .i64 k ∧ p = .int .i64 (1 + ((k * 65 : Nat) : Int)) ∧ wr = w) (fun _ i _ => n - (intOf i).toNat)
  case atStart => exact ⟨0, by omega, rfl, rfl, rfl⟩
  case round =>
    obtain ⟨k, hk, rfl, rfl, hw0⟩ := hrel
    obtain rfl : w = wr := hw0.symm
    by_cases hlt : k < n
    · have hdk : decide ((k : Int) < (n : Int)) = true := by simp; omega
      obtain ⟨b, off, rfl, hc⟩ := H1.out (by omega)
      have p0 := hc (k * 65) (by omega)
      rw [mkV_side] at p0
      have HC := Lib.hid hc
      have hw1 : IntKind.i64.wrap (1 + ((k * 65 : Nat) : Int) + 1) = 1 + ((k * 65 + 1 + 0 : Nat) : Int) := by rw [show 1 + ((k * 65 : Nat) : Int) + 1 = 1 + ((k * 65 + 1 + 0 : Nat) : Int) by omega]; exact IntWalk.i64_in _ (by omega)
      clear hc H1
      generalize 1 + ((k * 65 : Nat) : Int) = m at *
      have hmm : (m != m) = false := by simp
      go_wp2_with fail
      go_loopw [1, 6] (fun p jv wv => ∃ j : Nat, j ≤ 64 ∧ jv = .int .i64 j ∧ p = .int .i64 (1 + ((k * 65 + 1 + j : Nat) : Int)) ∧ wv = w) (fun _ jv _ => 64 - (intOf jv).toNat)
      case atStart => exact ⟨0, by omega, rfl, rfl, rfl⟩
      case round =>
        clear p0 hw1 hmm
        obtain ⟨j, hj, rfl, rfl, hw0⟩ := hrel
        obtain rfl : w = wr := hw0.symm
        by_cases hlt2 : j < 64
        · have hdj : decide ((j : Int) < 64) = true := by simp; omega
          have p1 := HC.out (k * 65 + 1 + j) (by omega)
          rw [mkV_cell k j hlt2, show off + (k * 65 + 1 + j) = off + k * 65 + 1 + j by omega] at p1
          have hcv := conv_mark (k * 65 + 1 + j) (by omega)
          obtain ⟨_, e1, e2⟩ := cm_any (k * 65 + 1 + j) (by omega)
          have hw2 : IntKind.i64.wrap (1 + ((k * 65 + 1 + j : Nat) : Int) + 1) = 1 + ((k * 65 + 1 + (j + 1) : Nat) : Int) := by rw [show 1 + ((k * 65 + 1 + j : Nat) : Int) + 1 = 1 + ((k * 65 + 1 + (j + 1) : Nat) : Int) by omega]; exact IntWalk.i64_in _ (by omega)
          generalize (cm (k * 65 + 1 + j)).1 = re at *
          generalize (cm (k * 65 + 1 + j)).2 = im at *
          generalize 1 + ((k * 65 + 1 + j : Nat) : Int) = m2 at *
          go_wp2_with fail
          exact ⟨⟨j + 1, by omega, by go_num, by rfl, by trivial⟩, by simp [intOf]; omega⟩
        · obtain rfl : j = 64 := by omega
          have hm3 : 1 + ((k * 65 + 1 + 64 : Nat) : Int) = 1 + (((k + 1) * 65 : Nat) : Int) := by omega
          rw [hm3]
          clear hm3
          go_wp2_with fail
          exact ⟨⟨k + 1, by omega, by go_num, by rfl, by trivial⟩, by simp [intOf]; omega⟩
    · obtain rfl : k = n := by omega
      go_wp2
      go_ret
      exact ⟨rfl, by trivial⟩

end Go.Proofs.Ytjmfffgddmnkmab
