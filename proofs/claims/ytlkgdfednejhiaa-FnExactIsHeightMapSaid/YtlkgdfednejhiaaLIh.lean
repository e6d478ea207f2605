/- The law of IsHeightMap returns true. Condition: none. -/
import Derived.Test.YtlkgdfednejhiaaHrr
import Derived.Test.YtlkgdfednejhiaaHk
namespace Go.Proofs.Ytlkgdfednejhiaa
open Go Go.RowKit

set_option maxRecDepth 100000 in
set_option maxHeartbeats 800000 in
theorem lawIH (n : Int) (ad : Option Addr) (len cap : Nat) (L : List Int) (w : World) (hA : Came ad len L w) :
    Calls Try.prog 5 #[.int .i64 n, .slice ad len cap] w fun e w' => e = .returned (.bool true) ∧ Below w.heap.size w w' := by
  by_cases hbig : 1048576 < len
  · go_enter Try.func5, Try.ntmps5
    go_wp2_with fail
    go_ret
    exact ⟨rfl, Below.refl _ _⟩
  · have hn : len ≤ 1048576 := by omega
    have hlen : L.length = len := hA.1
    have HA := Lib.hid hA
    have HN := Lib.hid hn
    have HL := Lib.hid hlen
    have HX : ∀ a c w, Came a L.length L w → Hid (Calls Try.prog 31 #[.int .i64 n, .slice a L.length c] w fun e w' => e = .returned (.bool (isMap n L)) ∧ w = w') := fun a c w h => Lib.hid (specIs_map n a L.length c L w h (by omega))
    have HY : ∀ a c w, Came a L.length L w → Hid (Calls Try.prog 33 #[.int .i64 n, .slice a L.length c] w fun e w' => e = .returned (.bool (isMap n L)) ∧ w = w') := fun a c w h => Lib.hid (implIs_any n a L.length c L w h (by omega))
    have HS := Lib.hid HX
    have HI := Lib.hid HY
    clear hA hn hlen HX HY
    generalize isMap n L = q at *
    have hq : (q != q) = false := by simp
    go_enter Try.func5, Try.ntmps5
    go_wp2_with fail
    refine (toInt_any ad len cap L _ HA.out HN.out).mono ?_
    rintro e w1 ⟨vp, rfl, op, kp⟩
    obtain ⟨ap, cp, rfl, mp⟩ := op.came
    have BB := Lib.hid kp
    have MP := Lib.hid mp
    clear op kp mp
    go_wp2_with fail
    refine (HS.out _ _ _ MP.out).out.mono ?_
    rintro e w2 ⟨rfl, rfl⟩
    go_wp2_with fail
    refine (toInt_any ad len cap L _ (HA.out.below BB.out (Nat.le_refl _)) HN.out).mono ?_
    rintro e w3 ⟨vx, rfl, ox, kx⟩
    obtain ⟨ax, cx, rfl, mx⟩ := ox.came
    have B3 := Lib.hid (BB.out.trans (kx.mono BB.out.size))
    have MX := Lib.hid mx
    clear ox kx mx BB MP
    go_wp2_with fail
    refine (HI.out _ _ _ MX.out).out.mono ?_
    rintro e w4 ⟨rfl, rfl⟩
    go_wp2_with fail
    refine (toInt_any ad len cap L _ (HA.out.below B3.out (Nat.le_refl _)) HN.out).mono ?_
    rintro e w5 ⟨vy, rfl, oy, ky⟩
    obtain ⟨ay, cy, rfl, my⟩ := oy.came
    have B5 := Lib.hid (B3.out.trans (ky.mono B3.out.size))
    have MY := Lib.hid my
    have MX2 := Lib.hid (MX.out.below ky (Nat.le_refl _))
    clear oy ky my B3 MX
    go_wp2_with fail
    refine (eqInt_yes _ _ L.length _ _ L _ MX2.out MY.out (by rw [HL.out]; exact HN.out)).mono ?_
    rintro e w6 ⟨rfl, ke⟩
    have B6 := Lib.hid (B5.out.trans (ke.mono B5.out.size))
    clear ke B5
    go_wp2_with fail
    go_ret
    exact ⟨rfl, B6.out⟩

end Go.Proofs.Ytlkgdfednejhiaa
