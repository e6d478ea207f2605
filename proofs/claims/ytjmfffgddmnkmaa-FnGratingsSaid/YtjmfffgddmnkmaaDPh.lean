/- The draw of a phase's number leaves a number. Condition: a code that can be read. -/
import Derived.Test.YtjmfffgddmnkmaaDra
namespace Go.Proofs.Ytjmfffgddmnkmaa
open Go Go.RowKit

theorem in_pick {r q k : Int} (hr : 0 ≤ r ∧ r < 64) (hq : 0 ≤ q ∧ q < 200) (hk : k ∈ [r, q - 100, 4611686018427387904, -4611686018427387904, -9223372036854775808]) :
    -9223372036854775808 ≤ k ∧ k ≤ 9223372036854775807 := by
  simp at hk
  omega

set_option maxRecDepth 100000 in
set_option maxHeartbeats 400000 in
theorem drawPhase_any (ad : Option Addr) (len cap : Nat) (w : World) (hc : Code ad len w) :
    Calls Try.prog 16 #[.slice ad len cap] w (fun e w' => ∃ k : Int, e = .returned (.int .i64 k) ∧ (-9223372036854775808 ≤ k ∧ k ≤ 9223372036854775807) ∧ Below w.heap.size w w') := by
  go_enter Try.func16, Try.ntmps16
  go_wp2_with fail
  refine (from_any ad len cap w hc).mono ?_
  rintro e w1 ⟨p, rfl, hp, hp1, s1, b1⟩
  go_wp2_with fail
  refine (next_any p 64 w1 s1).mono ?_
  rintro e w2 ⟨r, rfl, r0, r1, s2, o2⟩
  go_wp2_with fail
  refine (next_any p 200 w2 s2).mono ?_
  rintro e w3 ⟨q, rfl, q0, q1, s3, o3⟩
  have hw : IntKind.i64.wrap (q - 100) = q - 100 := IntWalk.i64_in _ (by omega)
  go_wp2_with fail
  refine (pick_lit p [r, q - 100, 4611686018427387904, -4611686018427387904, -9223372036854775808] w3 s3 (by simp) (by simp)).mono ?_
  rintro e w4 ⟨k, hk, rfl, s4, o4⟩
  go_wp2_with fail
  go_ret
  exact ⟨k, rfl, in_pick (by omega) (by omega) hk, ((o2.trans o3).trans o4).after b1 hp (Nat.le_refl _)⟩
end Go.Proofs.Ytjmfffgddmnkmaa
