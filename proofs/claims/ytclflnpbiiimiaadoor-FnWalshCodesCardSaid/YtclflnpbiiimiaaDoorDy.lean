/- The draws that the law of codes of Walsh asks for. Condition: a code that can be read. -/
import Derived.Test.YtclflnpbiiimiaaDoorDx
namespace Go.Proofs.YtclflnpbiiimiaaDoor
open Go Go.RowKit Ieee

/-- two numbers were drawn -/
def TwoD (w : World) (e : Ending) (w' : World) : Prop := ∃ n k : Int, e = .returned (.tuple #[.int .i64 n, .int .i64 k]) ∧ Below w.heap.size w w'

set_option maxRecDepth 100000 in
set_option maxHeartbeats 800000 in
theorem drawWc_any (ad : Option Addr) (len cap : Nat) (w : World) (hc : Code ad len w) : Calls Tryd.prog 6 #[.slice ad len cap] w (TwoD w) := by
  go_enter Tryd.func6, Tryd.ntmps6
  go_wp2_with fail
  refine (from_any ad len cap w hc).mono ?_
  rintro e w1 ⟨p, rfl, hp, hp2, s1, b1⟩
  go_wp2_with fail
  refine (pick_lit p [1, 2, 4, 8, 16, 32, 64, 12] w1 s1 (by simp) (by simp)).mono ?_
  rintro e w2 ⟨n, hn, rfl, s2, o2⟩
  have hn' : 1 ≤ n ∧ n ≤ 64 := by simp at hn; omega
  have B2 := Lib.hid (o2.after b1 hp (Nat.le_refl _))
  have HP : Hid (w.heap.size ≤ p) := Lib.hid hp
  clear hn o2 b1 s1
  go_wp2_with fail
  refine (next_any p 16 w2 s2).mono ?_
  rintro e w3 ⟨q, rfl, q0, q1, s3, o3⟩
  have hw1 : IntKind.i64.wrap (n + q / 15) = n + q / 15 := IntWalk.i64_in _ (by omega)
  have hdv : q.tdiv 15 = q / 15 := Int.tdiv_eq_ediv_of_nonneg q0
  have B3 := Lib.hid (o3.after B2.out HP.out (Nat.le_refl _))
  clear o3 B2 s2
  go_wp2_with fail
  refine (next_any p (n + q / 15) w3 s3).mono ?_
  rintro e w4 ⟨k, rfl, _, _, s4, o4⟩
  have B4 := Lib.hid (o4.after B3.out HP.out (Nat.le_refl _))
  clear o4 B3 s3
  go_wp2_with fail
  go_ret2
  exact ⟨n, k, rfl, B4.out⟩

set_option maxRecDepth 100000 in
set_option maxHeartbeats 800000 in
theorem drawCw_any (ad : Option Addr) (len cap : Nat) (w : World) (hc : Code ad len w) : Calls Tryd.prog 16 #[.slice ad len cap] w (TwoD w) := by
  go_enter Tryd.func16, Tryd.ntmps16
  go_wp2_with fail
  refine (from_any ad len cap w hc).mono ?_
  rintro e w1 ⟨p, rfl, hp, hp2, s1, b1⟩
  go_wp2_with fail
  refine (pick_lit p [1, 2, 4, 8, 3] w1 s1 (by simp) (by simp)).mono ?_
  rintro e w2 ⟨n, hn, rfl, s2, o2⟩
  have hn' : n = 1 ∨ n = 2 ∨ n = 4 ∨ n = 8 ∨ n = 3 := by simpa using hn
  obtain ⟨N, hN, hN2⟩ : ∃ N : Int, IntKind.i64.wrap (n * n) = N ∧ 0 ≤ N ∧ N ≤ 64 := by
    rcases hn' with rfl | rfl | rfl | rfl | rfl
    · exact ⟨1, rfl, by omega⟩
    · exact ⟨4, rfl, by omega⟩
    · exact ⟨16, rfl, by omega⟩
    · exact ⟨64, rfl, by omega⟩
    · exact ⟨9, rfl, by omega⟩
  have B2 := Lib.hid (o2.after b1 hp (Nat.le_refl _))
  have HP : Hid (w.heap.size ≤ p) := Lib.hid hp
  clear hn o2 b1 s1 hn'
  go_wp2_with fail
  refine (next_any p 16 w2 s2).mono ?_
  rintro e w3 ⟨q, rfl, q0, q1, s3, o3⟩
  have hw1 : IntKind.i64.wrap (N + q / 15) = N + q / 15 := IntWalk.i64_in _ (by omega)
  have hdv : q.tdiv 15 = q / 15 := Int.tdiv_eq_ediv_of_nonneg q0
  have B3 := Lib.hid (o3.after B2.out HP.out (Nat.le_refl _))
  clear o3 B2 s2
  go_wp2_with fail
  refine (next_any p (N + q / 15) w3 s3).mono ?_
  rintro e w4 ⟨k, rfl, _, _, s4, o4⟩
  have B4 := Lib.hid (o4.after B3.out HP.out (Nat.le_refl _))
  clear o4 B3 s3
  go_wp2_with fail
  go_ret2
  exact ⟨n, k, rfl, B4.out⟩

set_option maxRecDepth 100000 in
set_option maxHeartbeats 800000 in
theorem drawSb_any (ad : Option Addr) (len cap : Nat) (w : World) (hc : Code ad len w) : Calls Tryd.prog 10 #[.slice ad len cap] w (ListW w) := by
  go_enter Tryd.func10, Tryd.ntmps10
  go_wp2_with fail
  refine (from_any ad len cap w hc).mono ?_
  rintro e w1 ⟨p, rfl, hp, hp2, s1, b1⟩
  go_wp2_with fail
  refine (next_any p 10 w1 s1).mono ?_
  rintro e w2 ⟨q, rfl, q0, q1, s2, o2⟩
  have B2 := Lib.hid (o2.after b1 hp (Nat.le_refl _))
  have HP : Hid (w.heap.size ≤ p) := Lib.hid hp
  clear o2 b1 s1
  go_wp2_with fail
  refine (pick_lit p [1, 2, 4, 8, 16, 64, q] w2 s2 (by simp) (by simp)).mono ?_
  rintro e w3 ⟨n, hn, rfl, s3, o3⟩
  have hn' : 0 ≤ n ∧ n ≤ 64 := by simp at hn; omega
  obtain ⟨m, rfl⟩ : ∃ m : Nat, n = m := ⟨n.toNat, by omega⟩
  have hm : m ≤ 64 := by omega
  have B3 := Lib.hid (o3.after B2.out HP.out (Nat.le_refl _))
  clear hn hn' o3 B2 s2
  go_wp2_with fail
  refine (l10Draw_any p m hm w3 s3).mono ?_
  rintro e w4 ⟨v, L, rfl, hL, o4, s4, t4⟩
  obtain ⟨a, c, rfl, _⟩ := o4.came
  rw [hL] at o4 ⊢
  have HL := Lib.hid hL
  clear hL
  have O4 := Lib.hid (o4.mono B3.out.size)
  have B4 := Lib.hid (t4.after B3.out HP.out (Nat.le_refl _))
  clear o4 t4 s4 B3
  go_wp2_with fail
  go_ret
  exact ⟨_, L, rfl, by rw [HL.out]; exact hm, O4.out, B4.out⟩

set_option maxRecDepth 100000 in
theorem drawBk_any (ad : Option Addr) (len cap : Nat) (w : World) (hc : Code ad len w) : Calls Tryd.prog 13 #[.slice ad len cap] w (ListW w) := by
  go_enter Tryd.func13, Tryd.ntmps13
  go_wp2_with fail
  refine (drawSb_any ad len cap w hc).mono ?_
  rintro e w3 ⟨v, L, rfl, hL, o3, b3⟩
  obtain ⟨a, c, rfl, _⟩ := o3.came
  have O3 := Lib.hid o3
  have B3 := Lib.hid b3
  clear o3 b3
  go_wp2_with fail
  go_ret
  exact ⟨_, L, rfl, hL, O3.out, B3.out⟩

set_option maxRecDepth 100000 in
set_option maxHeartbeats 800000 in
theorem drawSp_any (ad : Option Addr) (len cap : Nat) (w : World) (hc : Code ad len w) : Calls Tryd.prog 19 #[.slice ad len cap] w fun e w' => ∃ (n : Int) (F : Nat → Nat) (N : Nat) (k : Int), e = .returned (.tuple #[.agg (pic n (gl F N)), .int .i64 k]) ∧ Below w.heap.size w w' := by
  have hz37 := (zero_of_info info32).1
  have HS65 := Lib.hid (zero_of_info info32).2
  have HZ65 : Hid ((pic 0 zero64).size = 65) := Lib.hid (pic_size 0 zero64 (by simp [zero64]))
  have hne : ¬ pic 0 zero64 = #[] := fun e => by
    have := congrArg Array.size e
    rw [pic_size 0 zero64 (by simp [zero64])] at this
    simp at this
  generalize pic 0 zero64 = Z at *
  have HC := Lib.hid (hc.below ((Below.refl w.heap.size w).alloc (Nat.le_refl _) (.cells Z 41)))
  clear hc
  go_enter Tryd.func19, Tryd.ntmps19
  go_wp2_with fail
  refine (from_any ad len cap _ HC.out).mono ?_
  rintro e w1 ⟨p, rfl, hp, hp2, s1, b1⟩
  rw [World.size_alloc] at hp b1
  have G1 : Hid (w1.heap[w.heap.size]? = some (.cells Z 41 (0, 0))) := Lib.hid (by rw [b1.block _ (by omega)]; exact h1_0 _ _)
  have B1 : Hid (Below w.heap.size w w1) := Lib.hid (((Below.refl w.heap.size w).alloc (Nat.le_refl _) _).trans (b1.mono (by omega)))
  have HP : Hid (w.heap.size < p) := Lib.hid (by omega)
  have HPL : Hid (w.heap.size ≤ p) := Lib.hid (by omega)
  clear b1 hp HC
  go_wp2_with fail
  refine (pick_lit p [1, 2, 4, 8] w1 s1 (by simp) (by simp)).mono ?_
  rintro e w2 ⟨n, hn, rfl, s2, o2⟩
  have hn' : n = 1 ∨ n = 2 ∨ n = 4 ∨ n = 8 := by simpa using hn
  obtain ⟨s, rfl⟩ : ∃ s : Nat, n = s := ⟨n.toNat, by omega⟩
  have hs : s = 1 ∨ s = 2 ∨ s = 4 ∨ s = 8 := by omega
  obtain ⟨N, hN, hN2⟩ : ∃ N : Int, IntKind.i64.wrap ((s : Int) * s) = N ∧ 0 ≤ N ∧ N ≤ 64 := by
    rcases hs with rfl | rfl | rfl | rfl
    · exact ⟨1, rfl, by omega⟩
    · exact ⟨4, rfl, by omega⟩
    · exact ⟨16, rfl, by omega⟩
    · exact ⟨64, rfl, by omega⟩
  have G2 : Hid (w2.heap[w.heap.size]? = some (.cells Z 41 (0, 0))) := Lib.hid (by rw [o2.block _ (Array.getElem?_eq_some_iff.1 G1.out).1 (by have := HP.out; omega)]; exact G1.out)
  have B2 := Lib.hid (o2.after B1.out HPL.out (Nat.le_refl _))
  clear hn o2 s1 hn' G1 B1
  go_wp2_with fail
  refine (drawPic_any p s hs w2 s2).mono ?_
  rintro e w3 ⟨F, M, rfl, s3, o3⟩
  have G3 : Hid (w3.heap[w.heap.size]? = some (.cells Z 41 (0, 0))) := Lib.hid (by rw [o3.block _ (Array.getElem?_eq_some_iff.1 G2.out).1 (by have := HP.out; omega)]; exact G2.out)
  have B3 := Lib.hid (o3.after B2.out HPL.out (Nat.le_refl _))
  obtain ⟨C, hC⟩ : ∃ C, C = pic (s : Int) (gl F M) := ⟨_, rfl⟩
  rw [← hC]
  have HCC := Lib.hid hC
  have HC1 : Hid (C.all (·.oneCell') = true) := Lib.hid (by rw [hC]; exact gl_one _ _ _)
  have HCI : Hid ((Tryd.prog.info? 41).map (·.size) = some C.size) := Lib.hid (by rw [hC, pic_size _ _ (gl_size _ _)]; exact HS65.out)
  have HZC : Hid (Z.size = C.size) := Lib.hid (by rw [hC, pic_size _ _ (gl_size _ _)]; exact HZ65.out)
  clear o3 s2 hC G2 B2 hs
  go_wp2_with fail
  refine (next_any p 16 w3 s3).mono ?_
  rintro e w4 ⟨q, rfl, q0, q1, s4, o4⟩
  have hw1 : IntKind.i64.wrap (N + q / 15) = N + q / 15 := IntWalk.i64_in _ (by omega)
  have hdv : q.tdiv 15 = q / 15 := Int.tdiv_eq_ediv_of_nonneg q0
  have G4 : Hid (w4.heap[w.heap.size]? = some (.cells Z 41 (0, 0))) := Lib.hid (by rw [o4.block _ (Array.getElem?_eq_some_iff.1 G3.out).1 (by have := HP.out; omega)]; exact G3.out)
  have B4 := Lib.hid (o4.after B3.out HPL.out (Nat.le_refl _))
  clear o4 s3 G3 B3
  go_wp2_with fail
  refine (next_any p (N + q / 15) w4 s4).mono ?_
  rintro e w5 ⟨k, rfl, _, _, s5, o5⟩
  have G5 : Hid (w5.heap[w.heap.size]? = some (.cells Z 41 (0, 0))) := Lib.hid (by rw [o5.block _ (Array.getElem?_eq_some_iff.1 G4.out).1 (by have := HP.out; omega)]; exact G4.out)
  have B5 := Lib.hid (o5.after B4.out HPL.out (Nat.le_refl _))
  clear o5 s4 G4 B4 hz37 hne
  go_wp2_with (first | fail | (refine wpList_store_row rfl 41 (.tmp 2) (.tmp 13) rfl w.heap.size C rfl rfl 41 Z G5.out HCI.out HZC.out HC1.out ?_))
  refine bodyPost_ret (v := .tuple #[.agg C, .int .i64 k]) (results_row_tmp (fn := Tryd.f19) (p := 2) (u := 3) (ty := 41) rfl _ _ w.heap.size 41 C (0, 0) _ rfl (setRow_heap _ _ _ _ _ _ G5.out) Tryd.underlying41 rfl HCI.out) rfl ⟨s, F, M, k, by rw [HCC.out], ?_⟩
  exact below_setRow B5.out (Nat.le_refl _) _

end Go.Proofs.YtclflnpbiiimiaaDoor
