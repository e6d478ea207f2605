/- The draw of sums of a picture. Condition: a code that can be read. -/
import Derived.Test.YtclflnpbiiimiaaDoorDy
namespace Go.Proofs.YtclflnpbiiimiaaDoor
open Go Go.RowKit Ieee

/-- the levels of a drawn picture -/
def glv (F : Nat → Nat) (M i : Nat) : Nat := if i < M then F i else 0
theorem glv_get (F : Nat → Nat) (M i : Nat) (hi : i < 64) : (gl F M)[i]? = some (.float .f32 (glv F M i)) := by
  rw [gl_get, if_pos hi]
  unfold glv
  split <;> rfl

set_option maxRecDepth 100000 in
set_option maxHeartbeats 1600000 in
theorem drawPs_any (ad : Option Addr) (len cap : Nat) (w : World) (hc : Code ad len w) : Calls Tryd.prog 22 #[.slice ad len cap] w fun e w' => ∃ (n : Int) (v : Value) (L : List Nat), e = .returned (.tuple #[.int .i64 n, v]) ∧ L.length ≤ 64 ∧ OwnF w.heap.size v L w' ∧ Below w.heap.size w w' := by
  have hz37 := (zero_of_info info32).1
  have HS65 := Lib.hid (zero_of_info info32).2
  have HZ65 : Hid ((pic 0 zero64).size = 65) := Lib.hid (pic_size 0 zero64 (by simp [zero64]))
  have hne : ¬ pic 0 zero64 = #[] := fun e => by
    have := congrArg Array.size e
    rw [pic_size 0 zero64 (by simp [zero64])] at this
    simp at this
  generalize pic 0 zero64 = Z at *
  go_enter Tryd.func22, Tryd.ntmps22
  go_wp2_with fail
  refine (from_any ad len cap _ hc).mono ?_
  rintro e w1 ⟨p, rfl, hp, hp2, s1, b1⟩
  go_wp2_with fail
  refine (pick_lit p [1, 2, 4, 8] w1 s1 (by simp) (by simp)).mono ?_
  rintro e w2 ⟨n, hn, rfl, s2, o2⟩
  have hn' : n = 1 ∨ n = 2 ∨ n = 4 ∨ n = 8 := by simpa using hn
  obtain ⟨s, rfl⟩ : ∃ s : Nat, n = s := ⟨n.toNat, by omega⟩
  have hs : s = 1 ∨ s = 2 ∨ s = 4 ∨ s = 8 := by omega
  obtain ⟨N, hN, hN2, hN3, hlen⟩ : ∃ N : Nat, IntKind.i64.wrap ((s : Int) * s) = (N : Int) ∧ 1 ≤ N ∧ N ≤ 64 ∧ lenI (N : Int) = true := by
    rcases hs with rfl | rfl | rfl | rfl
    · exact ⟨1, rfl, by omega, by omega, rfl⟩
    · exact ⟨4, rfl, by omega, by omega, rfl⟩
    · exact ⟨16, rfl, by omega, by omega, rfl⟩
    · exact ⟨64, rfl, by omega, by omega, rfl⟩
  have HLEN := Lib.hid hlen
  have HSD := Lib.hid hs
  have hsb : (s : Int) ≤ 8 := by omega
  have B2 := Lib.hid (o2.after b1 hp (Nat.le_refl _))
  have HP : Hid (w.heap.size ≤ p) := Lib.hid hp
  have HPL : Hid (p < w2.heap.size) := Lib.hid s2.lt
  have S2 := Lib.hid s2
  clear hn o2 s1 hn' b1 hp hp2 hlen hs s2
  go_wp2_with fail
  refine (l10Draw_any p N hN3 w2 S2.out).mono ?_
  rintro e w3 ⟨v, L, rfl, hL, o3, s3, t3⟩
  obtain ⟨a, c, rfl, _⟩ := o3.came
  rw [hL] at o3 ⊢
  have HL := Lib.hid hL
  have O3 := Lib.hid o3
  have S3 := Lib.hid s3
  have B3 := Lib.hid (t3.after B2.out HP.out (Nat.le_refl _))
  have HSZ : Hid (w.heap.size ≤ w2.heap.size) := Lib.hid B2.out.size
  clear hL o3 s3 t3 S2 B2
  go_wp2_with fail
  refine (next_any p 2 w3 S3.out).mono ?_
  rintro e w4 ⟨q, rfl, q0, q1, s4, o4⟩
  have O4 := Lib.hid (O3.out.trn o4 HPL.out)
  have S4 := Lib.hid s4
  have B4 := Lib.hid (o4.after B3.out HP.out (Nat.le_refl _))
  clear s4 o4 O3 S3 B3
  by_cases hq : q = 0
  · subst hq
    go_wp2_with fail
    refine (drawPic_any p s HSD.out w4 S4.out).mono ?_
    rintro e w5 ⟨F, M, rfl, s5, o5⟩
    obtain ⟨C, hC⟩ : ∃ C, C = pic (s : Int) (gl F M) := ⟨_, rfl⟩
    rw [← hC]
    have HC1 : Hid (C.all (·.oneCell') = true) := Lib.hid (by rw [hC]; exact gl_one _ _ _)
    have HCI : Hid ((Tryd.prog.info? 41).map (·.size) = some C.size) := Lib.hid (by rw [hC, pic_size _ _ (gl_size _ _)]; exact HS65.out)
    have HZC : Hid (Z.size = C.size) := Lib.hid (by rw [hC, pic_size _ _ (gl_size _ _)]; exact HZ65.out)
    have B5 := Lib.hid (o5.after B4.out HP.out (Nat.le_refl _))
    have S6 := Lib.hid (s5.alloc (.cells C 41))
    have B6 := Lib.hid (B5.out.alloc B5.out.size (.cells C 41))
    have HLL : Hid (CameF (some ⟨w5.heap.size, 1, none⟩) N ((List.range N).map (glv F M)) (w5.alloc (.cells C 41))) := Lib.hid ⟨by simp, fun _ => ⟨w5.heap.size, 1, rfl, by rw [World.size_alloc]; omega, fun i hi => by
      rw [cell_of_row _ _ _ _ _ _ (h1_0 _ _), hC, Nat.add_comm, pic_succ, glv_get F M i (by omega), List.getD_eq_getElem?_getD, List.getElem?_map, List.getElem?_range hi]
      rfl⟩⟩
    have hal : Tryd.prog.arrayLen 39 = 64 := by kernel_rfl
    have hsl : ∀ W, (Instr.sliceAt 39 (.pointer (some ⟨w5.heap.size, 1, none⟩)) none (some (.int .i64 (N : Int))) none).run Tryd.prog W = .ok (.slice (some ⟨w5.heap.size, 1, none⟩) N 64) W := fun W => by
      rw [run_sliceAt_array_h W 39 ⟨w5.heap.size, 1, none⟩ (by kernel_rfl) .i64 (N : Int) (by omega) (by rw [hal]; omega), hal]
      go_simp
    clear hC o5 s5 O4 S4 B4
    go_wp2_with (first | fail | (refine wpList_store_row rfl 41 (.tmp 7) (.tmp 23) rfl w5.heap.size C rfl rfl 41 Z (h1_0 _ _) HCI.out HZC.out HC1.out ?_; rw [World.setRow_alloc_new]))
    refine (l10Sums_all _ N _ _ _ HLL.out HLEN.out).mono ?_
    rintro e w7 ⟨v7, M7, rfl, o7, hM7, _, b7⟩
    obtain ⟨a7, c7, rfl, _⟩ := o7.came
    rw [hM7] at o7 ⊢
    have HM7 := Lib.hid hM7
    have O7 := Lib.hid (o7.mono (B := (w5.alloc (.cells C 41)).heap.size) (B' := w.heap.size) B6.out.size)
    have S7 := Lib.hid (S6.out.below b7)
    have B7 := Lib.hid (B6.out.trans (b7.mono B6.out.size))
    have O7B := Lib.hid o7
    have HPW : Hid (p < (w5.alloc (.cells C 41)).heap.size) := Lib.hid S6.out.lt
    clear hM7 o7 b7 S6 B6
    go_wp2_with fail
    refine (next_any p 24 w7 S7.out).mono ?_
    rintro e w8 ⟨u, rfl, u0, u1, s8, o8⟩
    have hdv : u.tdiv 23 = u / 23 := Int.tdiv_eq_ediv_of_nonneg u0
    have hw1 : IntKind.i64.wrap ((s : Int) + u / 23) = (s : Int) + u / 23 := IntWalk.i64_in _ (by omega)
    have O8 := Lib.hid ((O7B.out.trn o8 HPW.out).mono (B' := w.heap.size) (Nat.le_of_lt (Nat.lt_of_le_of_lt HP.out HPW.out)))
    have B8 := Lib.hid (o8.after B7.out HP.out (Nat.le_refl _))
    clear s8 o8 O7 S7 B7 O7B
    go_wp2_with fail
    go_ret2
    exact ⟨_, _, M7, rfl, by rw [HM7.out]; exact hN3, O8.out, B8.out⟩
  · have hq' : (q == 0) = false := by simp [hq]
    go_wp2_with fail
    refine (next_any p 24 w4 S4.out).mono ?_
    rintro e w8 ⟨u, rfl, u0, u1, s8, o8⟩
    have hdv : u.tdiv 23 = u / 23 := Int.tdiv_eq_ediv_of_nonneg u0
    have hw1 : IntKind.i64.wrap ((s : Int) + u / 23) = (s : Int) + u / 23 := IntWalk.i64_in _ (by omega)
    have O8 := Lib.hid ((O4.out.trn o8 HPL.out).mono (B' := w.heap.size) HSZ.out)
    have B8 := Lib.hid (o8.after B4.out HP.out (Nat.le_refl _))
    clear s8 o8 O4 S4 B4
    go_wp2_with fail
    go_ret2
    exact ⟨_, _, L, rfl, by rw [HL.out]; exact hN3, O8.out, B8.out⟩

/-- the law's side -/
theorem side9_any (p : Nat) (w : World) (hs : Dic p w) : Calls Tryd.prog 28 #[.pointer (some ⟨p, 0, none⟩)] w fun e w' => ∃ m : Nat, m ≤ 2 ∧ e = .returned (.int .i64 ((2 ^ m : Nat) : Int)) ∧ Dic p w' ∧ Trn p w w' := by
  go_enter Tryd.func28, Tryd.ntmps28
  go_wp2_with fail
  refine (below_any p 3 w hs).mono ?_
  rintro e w1 ⟨r, rfl, r0, r1, s1, o1⟩
  have hr : r = 0 ∨ r = 1 ∨ r = 2 := by omega
  rcases hr with rfl | rfl | rfl
  · go_wp2
    go_ret
    exact ⟨0, by omega, rfl, s1, o1⟩
  · go_wp2
    go_ret
    exact ⟨1, by omega, rfl, s1, o1⟩
  · go_wp2
    go_ret
    exact ⟨2, by omega, rfl, s1, o1⟩

end Go.Proofs.YtclflnpbiiimiaaDoor
