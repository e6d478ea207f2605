/- Lists of the same numbers are alike. Condition: at most 8 numbers. -/
import Derived.Test.YtjmfffgddmnkmabMid
import Derived.Outline
import Derived.Deep.CutBlock
import Derived.Deep.DeepCutAuto
import Derived.Deep.QuietTactic
import Derived.BigQuiet
namespace Go.Proofs.Ytjmfffgddmnkmab
open Go Go.RowKit

set_option maxRecDepth 100000 in
set_option maxHeartbeats 400000 in
theorem like_none (w : World) : Calls Try.prog 32 #[.slice none 0 0, .slice none 0 0] w fun e w' => e = .returned (.bool true) ∧ Below w.heap.size w w' := by
  go_enter Try.func32, Try.ntmps32
  go_wp2
  refine wp_loop_rounds 1 ?_
  rw [rounds_succ]
  go_wp2
  go_ret
  exact ⟨rfl, Below.refl _ _⟩

set_option maxRecDepth 100000 in
set_option maxHeartbeats 800000 in
theorem like_same (b1 b2 L cap1 cap2 : Nat) (f : Nat → Int) (w : World) (hL : L ≤ 8) (h1 : ∀ i, i < L → w.cell? ⟨b1, 0 + i, none⟩ = some (.int .i64 (f i))) (h2 : ∀ i, i < L → w.cell? ⟨b2, 0 + i, none⟩ = some (.int .i64 (f i))) :
    Calls Try.prog 32 #[.slice (some ⟨b1, 0, none⟩) L cap1, .slice (some ⟨b2, 0, none⟩) L cap2] w fun e w' => e = .returned (.bool true) ∧ Below w.heap.size w w' := by
  have H1 := Lib.hid h1
  have H2 := Lib.hid h2
  clear h1 h2
  go_enter Try.func32, Try.ntmps32
  go_wp2
  go_loopw [5] (fun i wr => ∃ k : Nat, k ≤ L ∧ i = .int .i64 k ∧ Hid (∀ i, i < L → wr.cell? ⟨b1, 0 + i, none⟩ = some (.int .i64 (f i))) ∧ Hid (∀ i, i < L → wr.cell? ⟨b2, 0 + i, none⟩ = some (.int .i64 (f i))) ∧ Hid (Below w.heap.size w wr)) (fun i _ => L - (intOf i).toNat)
  case atStart => exact ⟨0, by omega, rfl, H1, H2, Lib.hid (Below.refl _ _)⟩
  case round =>
    obtain ⟨k, hk, rfl, G1, G2, B⟩ := hrel
    clear H1 H2
    by_cases hlt : k < L
    · have hdk : decide ((k : Int) < (L : Int)) = true := by simp; omega
      have c := G1.out k hlt
      have c2 := G2.out k hlt
      rw [Nat.zero_add] at c c2
      have hk0 : (0 : Int) ≤ (k : Int) := by omega
      have hkL : (k : Int) < (L : Int) := by omega
      generalize f k = x at c c2
      go_upto_region 6 with fail
      go_quiet (fail)
      go_wp2
      exact ⟨⟨k + 1, by omega, by go_num, Lib.hid (fun i hi => by rw [World.cell?_drewN]; exact G1.out i hi), Lib.hid (fun i hi => by rw [World.cell?_drewN]; exact G2.out i hi), Lib.hid (below_drewN B.out _)⟩, by simp [intOf]; omega⟩
    · obtain rfl : k = L := by omega
      go_wp2
      go_ret
      exact ⟨rfl, B.out⟩
end Go.Proofs.Ytjmfffgddmnkmab
