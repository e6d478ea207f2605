/- The draw of a plane wave's numbers leaves three numbers. Condition: a code that can be read. -/
import Derived.Test.YtjmfffgddmnkmaaDPh
namespace Go.Proofs.Ytjmfffgddmnkmaa
open Go Go.RowKit

theorem in_two {r q k : Int} (hr : 0 ≤ r ∧ r < 9) (hq : 0 ≤ q ∧ q < 131) (hk : k ∈ [r - 4, q - 65]) : -65 ≤ k ∧ k ≤ 65 := by
  simp at hk
  omega
theorem in_side {k : Int} (hk : k ∈ [(1 : Int), 2, 4, 8, 8, 4, 3]) : k = 1 ∨ k = 2 ∨ k = 4 ∨ k = 8 ∨ k = 3 := by
  simp at hk
  omega

set_option maxRecDepth 100000 in
set_option maxHeartbeats 400000 in
theorem drawPlane_any (ad : Option Addr) (len cap : Nat) (w : World) (hc : Code ad len w) :
    Calls Try.prog 19 #[.slice ad len cap] w (fun e w' => ∃ n u v : Int, e = .returned (.tuple #[.int .i64 n, .int .i64 u, .int .i64 v]) ∧
      (n = 1 ∨ n = 2 ∨ n = 4 ∨ n = 8 ∨ n = 3) ∧ (-65 ≤ u ∧ u ≤ 65) ∧ (-65 ≤ v ∧ v ≤ 65) ∧ Below w.heap.size w w') := by
  go_enter Try.func19, Try.ntmps19
  go_wp2_with fail
  refine (from_any ad len cap w hc).mono ?_
  rintro e w1 ⟨p, rfl, hp, hp1, s1, b1⟩
  go_wp2_with fail
  refine (pick_lit p [1, 2, 4, 8, 8, 4, 3] w1 s1 (by simp) (by simp)).mono ?_
  rintro e w2 ⟨n, hn, rfl, s2, o2⟩
  go_wp2_with fail
  refine (next_any p 9 w2 s2).mono ?_
  rintro e w3 ⟨r, rfl, r0, r1, s3, o3⟩
  have hw : IntKind.i64.wrap (r - 4) = r - 4 := IntWalk.i64_in _ (by omega)
  go_wp2_with fail
  refine (next_any p 131 w3 s3).mono ?_
  rintro e w4 ⟨q, rfl, q0, q1, s4, o4⟩
  have hv : IntKind.i64.wrap (q - 65) = q - 65 := IntWalk.i64_in _ (by omega)
  go_wp2_with fail
  refine (pick_lit p [r - 4, q - 65] w4 s4 (by simp) (by simp)).mono ?_
  rintro e w5 ⟨u, hu, rfl, s5, o5⟩
  go_wp2_with fail
  refine (next_any p 9 w5 s5).mono ?_
  rintro e w6 ⟨r', rfl, r0', r1', s6, o6⟩
  have hw' : IntKind.i64.wrap (r' - 4) = r' - 4 := IntWalk.i64_in _ (by omega)
  go_wp2_with fail
  refine (next_any p 131 w6 s6).mono ?_
  rintro e w7 ⟨q', rfl, q0', q1', s7, o7⟩
  have hv' : IntKind.i64.wrap (q' - 65) = q' - 65 := IntWalk.i64_in _ (by omega)
  go_wp2_with fail
  refine (pick_lit p [r' - 4, q' - 65] w7 s7 (by simp) (by simp)).mono ?_
  rintro e w8 ⟨v, hv, rfl, s8, o8⟩
  go_wp2_with fail
  go_ret3
  exact ⟨n, u, v, rfl, in_side hn, in_two (by omega) (by omega) hu, in_two (by omega) (by omega) hv, (((((((o2.trans o3).trans o4).trans o5).trans o6).trans o7).trans o8)).after b1 hp (Nat.le_refl _)⟩
end Go.Proofs.Ytjmfffgddmnkmaa
