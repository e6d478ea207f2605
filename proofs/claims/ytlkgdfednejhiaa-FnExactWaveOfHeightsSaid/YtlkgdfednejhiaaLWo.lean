/- The law of WaveOfHeights returns true where program and model answer alike. Condition: the two answers are one wave of finite cells, and one code. -/
import Derived.Test.YtlkgdfednejhiaaWo
import Derived.Test.YtlkgdfednejhiaaEqV
namespace Go.Proofs.Ytlkgdfednejhiaa
open Go Go.RowKit

set_option maxRecDepth 100000 in
set_option maxHeartbeats 1600000 in
theorem lawWo_of (n : Int) (ad : Option Addr) (len cap : Nat) (L : List Int) (m c : Int) (zs : Array Value) (w : World) (hA : Came ad len L w) (hz : Cells zs) (h1 : (pic m zs).all (·.oneCell') = true)
    (HS : Hid (Waves 38 n L m zs c)) (HI : Hid (Waves 39 n L m zs c)) :
    Calls Try.prog 10 #[.int .i64 n, .slice ad len cap] w fun e w' => e = .returned (.bool true) ∧ Below w.heap.size w w' := by
  by_cases hbig : 1048576 < len
  · go_enter Try.func10, Try.ntmps10
    go_wp2_with fail
    go_ret
    exact ⟨rfl, Below.refl _ _⟩
  · have hn : len ≤ 1048576 := by omega
    have hlen : L.length = len := hA.1
    have HA := Lib.hid hA
    have HN := Lib.hid hn
    have HL := Lib.hid hlen
    have hz37 := (zero_of_info info37').1
    have HE := Lib.hid (eqWave_refl m zs hz)
    have HF : Hid ((Try.prog.info? 33).map (·.size) = some (pic m zs).size) := Lib.hid (by rw [pic_size _ _ hz.1]; exact (zero_of_info info37').2)
    have HZF : Hid ((pic 0 zc).size = (pic m zs).size) := Lib.hid (by rw [pic_size _ _ hz.1, pic_size 0 zc zc_size])
    have H1 := Lib.hid h1
    have hcc : (c != c) = false := by simp
    have HS2 := Lib.hid (fun v w h => HS.out (by omega) v w h)
    have HI2 := Lib.hid (fun v w h => HI.out (by omega) v w h)
    clear hA hn hlen HS HI
    generalize pic 0 zc = Z at *
    generalize pic m zs = F at *
    clear hz h1
    go_enter Try.func10, Try.ntmps10
    go_wp2_with fail
    refine (toInt_any ad len cap L _ HA.out HN.out).mono ?_
    rintro e w1 ⟨vp, rfl, op, kp⟩
    have BB := Lib.hid kp
    have OP := Lib.hid (op.mono (Nat.zero_le _))
    clear op kp
    go_wp2_with fail
    refine (HS2.out _ _ OP.out).mono ?_
    rintro e w2 ⟨rfl, k2⟩
    have B2 := Lib.hid (BB.out.trans (k2.mono BB.out.size))
    have G2 : Hid ((w2.alloc (.cells Z 33)).heap[w2.heap.size]? = some (.cells Z 33)) := Lib.hid (h1_0 _ _)
    clear k2 BB OP
    go_wp2_with (first | fail | (refine wpList_store_row rfl 33 (.tmp 5) (.tmp 18) rfl w2.heap.size F rfl rfl 33 Z G2.out HF.out HZF.out H1.out ?_; rw [World.setRow_alloc_new]))
    have B3 : Hid (Below w.heap.size w (w2.alloc (.cells F 33))) := Lib.hid (B2.out.alloc B2.out.size _)
    have G3 : Hid ((w2.alloc (.cells F 33)).heap[w2.heap.size]? = some (.cells F 33)) := Lib.hid (h1_0 _ _)
    clear G2
    generalize w2.alloc (.cells F 33) = w3 at *
    refine (toInt_any ad len cap L _ (HA.out.below B3.out (Nat.le_refl _)) HN.out).mono ?_
    rintro e w4 ⟨vx, rfl, ox, kx⟩
    have B4 := Lib.hid (B3.out.trans (kx.mono B3.out.size))
    have lt3 : w2.heap.size < w3.heap.size := (Array.getElem?_eq_some_iff.1 G3.out).1
    have G4 : Hid (w4.heap[w2.heap.size]? = some (.cells F 33)) := Lib.hid (by rw [kx.block _ lt3]; exact G3.out)
    have OX := Lib.hid (ox.mono (Nat.zero_le _))
    have lt4 : w2.heap.size < w4.heap.size := (Array.getElem?_eq_some_iff.1 G4.out).1
    clear ox kx B3 G3 lt3
    go_wp2_with fail
    refine (HI2.out _ _ OX.out).mono ?_
    rintro e w5 ⟨rfl, k5⟩
    have B5 := Lib.hid (B4.out.trans (k5.mono B4.out.size))
    have G5 : Hid (w5.heap[w2.heap.size]? = some (.cells F 33)) := Lib.hid (by rw [k5.block _ lt4]; exact G4.out)
    have OX5 := Lib.hid (OX.out.below k5 (Nat.le_refl _))
    have lt5 : w2.heap.size < w5.heap.size := (Array.getElem?_eq_some_iff.1 G5.out).1
    have Z5 : Hid ((w5.alloc (.cells Z 33)).heap[w5.heap.size]? = some (.cells Z 33)) := Lib.hid (h1_0 _ _)
    have F5 : Hid ((w5.alloc (.cells F 33)).heap[w5.heap.size]? = some (.cells F 33)) := Lib.hid (h1_0 _ _)
    have G6 : Hid ((w5.alloc (.cells F 33)).heap[w2.heap.size]? = some (.cells F 33)) := Lib.hid (by rw [heap_alloc_old _ _ lt5]; exact G5.out)
    have B6 : Hid (Below w.heap.size w (w5.alloc (.cells F 33))) := Lib.hid (B5.out.alloc B5.out.size _)
    have OX6 : Hid (Own 0 vx L (w5.alloc (.cells F 33))) := Lib.hid (OX5.out.alloc _)
    clear k5 B4 G4 OX lt4 B5 G5 OX5
    go_wp2_with (first | fail | (refine wpList_store_row rfl 33 (.tmp 8) (.tmp 26) rfl w5.heap.size F rfl rfl 33 Z Z5.out HF.out HZF.out H1.out ?_; rw [World.setRow_alloc_new]) | (refine wpList_load_row rfl 33 (.tmp 8) rfl w5.heap.size rfl 33 F (0, 0) _ F5.out Try.underlying33 rfl HF.out ?_) | (refine wpList_load_row rfl 33 (.tmp 5) rfl w2.heap.size rfl 33 F (0, 0) _ G6.out Try.underlying33 rfl HF.out ?_))
    refine (HE.out _).mono ?_
    rintro e w7 ⟨rfl, k7⟩
    have B7 := Lib.hid (B6.out.trans (k7.mono B6.out.size))
    have OX7 := Lib.hid (OX6.out.below k7 (Nat.le_refl _))
    clear k7 B6 OX6 G6 F5 Z5
    go_wp2_with fail
    refine (toInt_any ad len cap L _ (HA.out.below B7.out (Nat.le_refl _)) HN.out).mono ?_
    rintro e w8 ⟨vy, rfl, oy, ky⟩
    obtain ⟨_, _, rfl, m1⟩ := (OX7.out.below ky (Nat.le_refl _)).came
    obtain ⟨_, _, rfl, m2⟩ := oy.came
    have B8 := Lib.hid (B7.out.trans (ky.mono B7.out.size))
    have M1 := Lib.hid m1
    have M2 := Lib.hid m2
    clear oy ky m1 m2 B7 OX7
    go_wp2_with fail
    refine (eqInt_yes _ _ L.length _ _ L _ M1.out M2.out (by rw [HL.out]; exact HN.out)).mono ?_
    rintro e w9 ⟨rfl, ke⟩
    have B9 := Lib.hid (B8.out.trans (ke.mono B8.out.size))
    clear ke B8
    go_wp2_with fail
    go_ret
    exact ⟨rfl, B9.out⟩

end Go.Proofs.Ytlkgdfednejhiaa
