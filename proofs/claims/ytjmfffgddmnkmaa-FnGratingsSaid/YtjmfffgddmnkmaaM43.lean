/- The draw of a plane wave's numbers leaves three numbers. Condition: a code that can be read. The draws of a flat wave's arguments, of a side, of a simple number. Condition: a code that can be read; a source. -/
import Derived.Test.YtjmfffgddmnkmaaDPh
import Derived.Test.YtjmfffgddmnkmaaNum
import Derived.Test.YtjmfffgddmnkmaaDra
import Derived.Test.YtjmfffgddmnkmaaM7
namespace Go.Proofs.Ytjmfffgddmnkmaa
open Go Go.RowKit

theorem in_two {r q k : Int} (hr : 0 ≤ r ∧ r < 9) (hq : 0 ≤ q ∧ q < 131) (hk : k ∈ [r - 4, q - 65]) : -65 ≤ k ∧ k ≤ 65 := by
  simp at hk
  omega
theorem in_side {k : Int} (hk : k ∈ [(1 : Int), 2, 4, 8, 8, 4, 3]) : k = 1 ∨ k = 2 ∨ k = 4 ∨ k = 8 ∨ k = 3 := by
  simp at hk
  omega

set_option maxRecDepth 100000 in
set_option maxHeartbeats 400000 in
theorem drawPlane_any (ad : Option Addr) (len cap : Nat) (w : World) (hc : Code ad len w) :
    Calls Try.prog 19 #[.slice ad len cap] w (fun e w' => ∃ n u v : Int, e = .returned (.tuple #[.int .i64 n, .int .i64 u, .int .i64 v]) ∧
      (n = 1 ∨ n = 2 ∨ n = 4 ∨ n = 8 ∨ n = 3) ∧ (-65 ≤ u ∧ u ≤ 65) ∧ (-65 ≤ v ∧ v ≤ 65) ∧ Below w.heap.size w w') := by
  go_enter Try.func19, Try.ntmps19
  go_wp2_with fail
  refine (from_any ad len cap w hc).mono ?_
  rintro e w1 ⟨p, rfl, hp, hp1, s1, b1⟩
  go_wp2_with fail
  refine (pick_lit p [1, 2, 4, 8, 8, 4, 3] w1 s1 (by simp) (by simp)).mono ?_
  rintro e w2 ⟨n, hn, rfl, s2, o2⟩
  go_wp2_with fail
  refine (next_any p 9 w2 s2).mono ?_
  rintro e w3 ⟨r, rfl, r0, r1, s3, o3⟩
  have hw : IntKind.i64.wrap (r - 4) = r - 4 := IntWalk.i64_in _ (by omega)
  go_wp2_with fail
  refine (next_any p 131 w3 s3).mono ?_
  rintro e w4 ⟨q, rfl, q0, q1, s4, o4⟩
  have hv : IntKind.i64.wrap (q - 65) = q - 65 := IntWalk.i64_in _ (by omega)
  go_wp2_with fail
  refine (pick_lit p [r - 4, q - 65] w4 s4 (by simp) (by simp)).mono ?_
  rintro e w5 ⟨u, hu, rfl, s5, o5⟩
  go_wp2_with fail
  refine (next_any p 9 w5 s5).mono ?_
  rintro e w6 ⟨r', rfl, r0', r1', s6, o6⟩
  have hw' : IntKind.i64.wrap (r' - 4) = r' - 4 := IntWalk.i64_in _ (by omega)
  go_wp2_with fail
  refine (next_any p 131 w6 s6).mono ?_
  rintro e w7 ⟨q', rfl, q0', q1', s7, o7⟩
  have hv' : IntKind.i64.wrap (q' - 65) = q' - 65 := IntWalk.i64_in _ (by omega)
  go_wp2_with fail
  refine (pick_lit p [r' - 4, q' - 65] w7 s7 (by simp) (by simp)).mono ?_
  rintro e w8 ⟨v, hv, rfl, s8, o8⟩
  go_wp2_with fail
  go_ret3
  exact ⟨n, u, v, rfl, in_side hn, in_two (by omega) (by omega) hu, in_two (by omega) (by omega) hv, (((((((o2.trans o3).trans o4).trans o5).trans o6).trans o7).trans o8)).after b1 hp (Nat.le_refl _)⟩
end Go.Proofs.Ytjmfffgddmnkmaa

namespace Go.Proofs.Ytjmfffgddmnkmaa
open Go Go.RowKit

set_option maxRecDepth 100000 in
set_option maxHeartbeats 400000 in
theorem drawFlat_any (ad : Option Addr) (len cap : Nat) (w : World) (hc : Code ad len w) :
    Calls Try.prog 26 #[.slice ad len cap] w (fun e w' => ∃ n : Int, ∃ x y : Nat, e = .returned (.tuple #[.int .i64 n, .complex .f32 x y]) ∧
      (0 ≤ n ∧ n ≤ 16) ∧ Below w.heap.size w w') := by
  go_enter Try.func26, Try.ntmps26
  go_wp2_with fail
  refine (from_any ad len cap w hc).mono ?_
  rintro e w1 ⟨p, rfl, hp, hp1, s1, b1⟩
  go_wp2_with fail
  refine (pick_lit p [1, 2, 4, 8, 8, 4, 0, 3, 16] w1 s1 (by simp) (by simp)).mono ?_
  rintro e w2 ⟨n, hn, rfl, s2, o2⟩
  go_wp2_with fail
  refine (drawComplex_any p w2 s2).mono ?_
  rintro e w3 ⟨x, y, rfl, s3, o3⟩
  go_wp2_with fail
  go_ret2
  have hn' : 0 ≤ n ∧ n ≤ 16 := by simp at hn; omega
  exact ⟨n, x, y, rfl, hn', (o2.trans o3).after b1 hp (Nat.le_refl _)⟩

set_option maxRecDepth 100000 in
set_option maxHeartbeats 800000 in
theorem simple_any (p : Nat) (w : World) (hs : Src p w) : Calls Try.prog 138 #[.pointer (some ⟨p, 0, none⟩)] w (CplD p w) := by
  go_enter Try.func138, Try.ntmps138
  go_wp2_with fail
  refine (next_any p 6 w hs).mono ?_
  rintro e w1 ⟨r, rfl, r0, r1, s1, o1⟩
  have S := Lib.hid s1
  have O := Lib.hid o1
  clear s1 o1 hs
  by_cases h0 : r = 0
  · subst h0
    go_wp2_with fail
    go_ret
    exact ⟨_, _, rfl, S.out, O.out⟩
  by_cases h1 : r = 1
  · subst h1
    go_wp2_with fail
    go_ret
    exact ⟨_, _, rfl, S.out, O.out⟩
  by_cases h2 : r = 2
  · subst h2
    go_wp2_with fail
    refine (pick_lit p [1, -1] w1 S.out (by simp) (by simp)).mono ?_
    rintro e w2 ⟨n, hn, rfl, s2, o2⟩
    go_wp2_with fail
    go_ret
    exact ⟨_, _, rfl, s2, O.out.trans o2⟩
  by_cases h3 : r = 3
  · subst h3
    go_wp2_with fail
    refine (next_any p 64 w1 S.out).mono ?_
    rintro e w2 ⟨n, rfl, n0, n1, s2, o2⟩
    go_wp2_with fail
    refine (spec_phase n w2).mono ?_
    rintro e w3 ⟨rfl, rfl⟩
    go_wp2_with fail
    go_ret
    exact ⟨_, _, rfl, s2, O.out.trans o2⟩
  · go_wp2_with fail
    refine (next_any p 9 w1 S.out).mono ?_
    rintro e w2 ⟨n, rfl, n0, n1, s2, o2⟩
    have hw : IntKind.i64.wrap (n - 4) = n - 4 := IntWalk.i64_in _ (by omega)
    have S2 := Lib.hid s2
    have O2 := Lib.hid (O.out.trans o2)
    clear s2 o2 O S
    go_wp2_with fail
    (first | refine upon_gives (gives_arith _ _ (by decide) _ _ _ _ _) ?_ | refine upon_gives (gives_conv _ _ _ _ _) ?_ | refine upon_gives (gives_neg _ _ _ _) ?_)
    intro z wz hl
    replace S2 := Lib.hid (Like.src hl (S2).out)
    replace O2 := Lib.hid (Own.trans (O2).out (Like.own hl _))
    clear hl
    go_wp2_with fail
    (first | refine upon_gives (gives_arith _ _ (by decide) _ _ _ _ _) ?_ | refine upon_gives (gives_conv _ _ _ _ _) ?_ | refine upon_gives (gives_neg _ _ _ _) ?_)
    intro z wz hl
    replace S2 := Lib.hid (Like.src hl (S2).out)
    replace O2 := Lib.hid (Own.trans (O2).out (Like.own hl _))
    clear hl
    go_wp2_with fail
    refine (next_any p 9 _ S2.out).mono ?_
    rintro e w3 ⟨m, rfl, m0, m1, s3, o3⟩
    have hw : IntKind.i64.wrap (m - 4) = m - 4 := IntWalk.i64_in _ (by omega)
    have S3 := Lib.hid s3
    have O3 := Lib.hid (O2.out.trans o3)
    clear s3 o3 O2 S2
    go_wp2_with fail
    (first | refine upon_gives (gives_arith _ _ (by decide) _ _ _ _ _) ?_ | refine upon_gives (gives_conv _ _ _ _ _) ?_ | refine upon_gives (gives_neg _ _ _ _) ?_)
    intro z wz hl
    replace S3 := Lib.hid (Like.src hl (S3).out)
    replace O3 := Lib.hid (Own.trans (O3).out (Like.own hl _))
    clear hl
    go_wp2_with fail
    (first | refine upon_gives (gives_arith _ _ (by decide) _ _ _ _ _) ?_ | refine upon_gives (gives_conv _ _ _ _ _) ?_ | refine upon_gives (gives_neg _ _ _ _) ?_)
    intro z wz hl
    replace S3 := Lib.hid (Like.src hl (S3).out)
    replace O3 := Lib.hid (Own.trans (O3).out (Like.own hl _))
    clear hl
    go_wp2_with fail
    go_ret
    exact ⟨_, _, rfl, S3.out, O3.out⟩
end Go.Proofs.Ytjmfffgddmnkmaa
