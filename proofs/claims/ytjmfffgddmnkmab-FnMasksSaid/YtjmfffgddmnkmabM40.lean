/- The draw of a plane wave's numbers leaves three numbers. Condition: a code that can be read. The draws of a flat wave's arguments, of a side, of a simple number. Condition: a code that can be read; a source. -/
import Derived.Test.YtjmfffgddmnkmabM39
import Derived.Test.YtjmfffgddmnkmabNum
import Derived.Test.YtjmfffgddmnkmabM11
namespace Go.Proofs.Ytjmfffgddmnkmab
open Go Go.RowKit

theorem in_two {r q k : Int} (hr : 0 ≤ r ∧ r < 9) (hq : 0 ≤ q ∧ q < 131) (hk : k ∈ [r - 4, q - 65]) : -65 ≤ k ∧ k ≤ 65 := by
  simp at hk
  omega
theorem in_side {k : Int} (hk : k ∈ [(1 : Int), 2, 4, 8, 8, 4, 3]) : k = 1 ∨ k = 2 ∨ k = 4 ∨ k = 8 ∨ k = 3 := by
  simp at hk
  omega

end Go.Proofs.Ytjmfffgddmnkmab

namespace Go.Proofs.Ytjmfffgddmnkmab
open Go Go.RowKit

set_option maxRecDepth 100000 in
set_option maxHeartbeats 800000 in
theorem simple_any (p : Nat) (w : World) (hs : Src p w) : Calls Try.prog 149 #[.pointer (some ⟨p, 0, none⟩)] w (CplD p w) := by
  go_enter Try.func149, Try.ntmps149
  go_wp2_with fail
  refine (next_any p 6 w hs).mono ?_
  rintro e w1 ⟨r, rfl, r0, r1, s1, o1⟩
  have S := Lib.hid s1
  have O := Lib.hid o1
  clear s1 o1 hs
  by_cases h0 : r = 0
  · subst h0
    go_wp2_with fail
    go_ret
    exact ⟨_, _, rfl, S.out, O.out⟩
  by_cases h1 : r = 1
  · subst h1
    go_wp2_with fail
    go_ret
    exact ⟨_, _, rfl, S.out, O.out⟩
  by_cases h2 : r = 2
  · subst h2
    go_wp2_with fail
    refine (pick_lit p [1, -1] w1 S.out (by simp) (by simp)).mono ?_
    rintro e w2 ⟨n, hn, rfl, s2, o2⟩
    go_wp2_with fail
    go_ret
    exact ⟨_, _, rfl, s2, O.out.trans o2⟩
  by_cases h3 : r = 3
  · subst h3
    go_wp2_with fail
    refine (next_any p 64 w1 S.out).mono ?_
    rintro e w2 ⟨n, rfl, n0, n1, s2, o2⟩
    go_wp2_with fail
    refine (spec_phase n w2).mono ?_
    rintro e w3 ⟨rfl, rfl⟩
    go_wp2_with fail
    go_ret
    exact ⟨_, _, rfl, s2, O.out.trans o2⟩
  · go_wp2_with fail
    refine (next_any p 9 w1 S.out).mono ?_
    rintro e w2 ⟨n, rfl, n0, n1, s2, o2⟩
    have hw : IntKind.i64.wrap (n - 4) = n - 4 := IntWalk.i64_in _ (by omega)
    have S2 := Lib.hid s2
    have O2 := Lib.hid (O.out.trans o2)
    clear s2 o2 O S
    go_wp2_with fail
    (first | refine upon_gives (gives_arith _ _ (by decide) _ _ _ _ _) ?_ | refine upon_gives (gives_conv _ _ _ _ _) ?_ | refine upon_gives (gives_neg _ _ _ _) ?_)
    intro z wz hl
    replace S2 := Lib.hid (Like.src hl (S2).out)
    replace O2 := Lib.hid (Own.trans (O2).out (Like.own hl _))
    clear hl
    go_wp2_with fail
    (first | refine upon_gives (gives_arith _ _ (by decide) _ _ _ _ _) ?_ | refine upon_gives (gives_conv _ _ _ _ _) ?_ | refine upon_gives (gives_neg _ _ _ _) ?_)
    intro z wz hl
    replace S2 := Lib.hid (Like.src hl (S2).out)
    replace O2 := Lib.hid (Own.trans (O2).out (Like.own hl _))
    clear hl
    go_wp2_with fail
    refine (next_any p 9 _ S2.out).mono ?_
    rintro e w3 ⟨m, rfl, m0, m1, s3, o3⟩
    have hw : IntKind.i64.wrap (m - 4) = m - 4 := IntWalk.i64_in _ (by omega)
    have S3 := Lib.hid s3
    have O3 := Lib.hid (O2.out.trans o3)
    clear s3 o3 O2 S2
    go_wp2_with fail
    (first | refine upon_gives (gives_arith _ _ (by decide) _ _ _ _ _) ?_ | refine upon_gives (gives_conv _ _ _ _ _) ?_ | refine upon_gives (gives_neg _ _ _ _) ?_)
    intro z wz hl
    replace S3 := Lib.hid (Like.src hl (S3).out)
    replace O3 := Lib.hid (Own.trans (O3).out (Like.own hl _))
    clear hl
    go_wp2_with fail
    (first | refine upon_gives (gives_arith _ _ (by decide) _ _ _ _ _) ?_ | refine upon_gives (gives_conv _ _ _ _ _) ?_ | refine upon_gives (gives_neg _ _ _ _) ?_)
    intro z wz hl
    replace S3 := Lib.hid (Like.src hl (S3).out)
    replace O3 := Lib.hid (Own.trans (O3).out (Like.own hl _))
    clear hl
    go_wp2_with fail
    go_ret
    exact ⟨_, _, rfl, S3.out, O3.out⟩
end Go.Proofs.Ytjmfffgddmnkmab
