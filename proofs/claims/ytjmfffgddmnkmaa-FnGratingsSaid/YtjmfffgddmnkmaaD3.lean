/- The draws of chapter 3 that draw whole numbers leave some, and all memory as it was. Condition: a code that can be read. -/
import Derived.Test.YtjmfffgddmnkmaaDra
namespace Go.Proofs.Ytjmfffgddmnkmaa
open Go Go.RowKit

/-- a side, or something near, was drawn -/
def SidedD (p : Nat) (w : World) (e : Ending) (w' : World) : Prop :=
  ∃ n : Int, e = .returned (.int .i64 n) ∧ (-4 ≤ n ∧ n ≤ 16) ∧ Src p w' ∧ Own p w w'

set_option maxRecDepth 100000 in
set_option maxHeartbeats 400000 in
theorem sided_any (p : Nat) (w : World) (hs : Src p w) : Calls Try.prog 91 #[.pointer (some ⟨p, 0, none⟩)] w (SidedD p w) := by
  go_enter Try.func91, Try.ntmps91
  go_wp2_with fail
  refine (next_any p 20 w hs).mono ?_
  rintro e w1 ⟨r, rfl, r0, r1, s1, o1⟩
  by_cases hr : r = 0
  · subst hr
    go_wp2_with fail
    refine (pick_lit p [0, 3, 16, -4] _ s1 (by simp) (by simp)).mono ?_
    rintro e w2 ⟨k, hk, rfl, s2, o2⟩
    go_wp2_with fail
    go_ret
    have hk' : -4 ≤ k ∧ k ≤ 16 := by simp at hk; omega
    exact ⟨k, rfl, hk', s2, o1.trans o2⟩
  · have hr' : (r == 0) = false := by simp [hr]
    go_wp2_with fail
    refine (drawSide_any p _ s1).mono ?_
    rintro e w2 ⟨k, rfl, hk, s2, o2⟩
    go_wp2_with fail
    go_ret
    exact ⟨k, rfl, by omega, s2, o1.trans o2⟩

theorem top_max (n : Int) (h : -4 ≤ n ∧ n ≤ 16) : ∃ m, (if 0 > n - 1 then 0 else n - 1) = m ∧ 0 ≤ m ∧ m ≤ 16 := ⟨_, rfl, by split <;> omega, by split <;> omega⟩

set_option maxRecDepth 100000 in
set_option maxHeartbeats 400000 in
theorem drawSlit_any (ad : Option Addr) (len cap : Nat) (w : World) (hc : Code ad len w) :
    Calls Try.prog 36 #[.slice ad len cap] w (fun e w' => ∃ n x d : Int, e = .returned (.tuple #[.int .i64 n, .int .i64 x, .int .i64 d]) ∧ Below w.heap.size w w') := by
  go_enter Try.func36, Try.ntmps36
  go_wp2_with fail
  refine (from_any ad len cap w hc).mono ?_
  rintro e w1 ⟨p, rfl, hp, hp1, s1, b1⟩
  go_wp2_with fail
  refine (sided_any p _ s1).mono ?_
  rintro e w2 ⟨n, rfl, hn, s2, o2⟩
  have hw1 : IntKind.i64.wrap (n - 1) = n - 1 := IntWalk.i64_in _ (by omega)
  obtain ⟨m1, hm1, lo1, hi1⟩ := top_max n hn
  go_wp2_with fail
  refine (near_any p m1 lo1 (by omega) _ s2).mono ?_
  rintro e w3 ⟨x, rfl, hx, s3, o3⟩
  obtain ⟨a, ha, lo2, hi2⟩ : ∃ a, (if 0 > x then 0 else x) = a ∧ 0 ≤ a ∧ a ≤ 1099511627776 := ⟨_, rfl, by split <;> omega, by split <;> omega⟩
  have hw2 : IntKind.i64.wrap (n - a) = n - a := IntWalk.i64_in _ (by omega)
  obtain ⟨b, hb, lo3, hi3⟩ : ∃ b, (if 0 > n - a then 0 else n - a) = b ∧ 0 ≤ b ∧ b ≤ 16 := ⟨_, rfl, by split <;> omega, by split <;> omega⟩
  go_wp2_with fail
  refine (near_any p b lo3 (by omega) _ s3).mono ?_
  rintro e w4 ⟨d, rfl, hd, s4, o4⟩
  go_wp2_with fail
  go_ret3
  exact ⟨n, x, d, rfl, ((o2.trans o3).trans o4).after b1 hp (Nat.le_refl _)⟩

set_option maxRecDepth 100000 in
set_option maxHeartbeats 400000 in
theorem drawGrating_any (ad : Option Addr) (len cap : Nat) (w : World) (hc : Code ad len w) :
    Calls Try.prog 45 #[.slice ad len cap] w (fun e w' => ∃ n x d : Int, e = .returned (.tuple #[.int .i64 n, .int .i64 x, .int .i64 d]) ∧ Below w.heap.size w w') := by
  go_enter Try.func45, Try.ntmps45
  go_wp2_with fail
  refine (from_any ad len cap w hc).mono ?_
  rintro e w1 ⟨p, rfl, hp, hp1, s1, b1⟩
  go_wp2_with fail
  refine (sided_any p _ s1).mono ?_
  rintro e w2 ⟨n, rfl, hn, s2, o2⟩
  have hw1 : IntKind.i64.wrap (n - 1) = n - 1 := IntWalk.i64_in _ (by omega)
  obtain ⟨m1, hm1, lo1, hi1⟩ := top_max n hn
  go_wp2_with fail
  refine (near_any p m1 lo1 (by omega) _ s2).mono ?_
  rintro e w3 ⟨x, rfl, hx, s3, o3⟩
  have hw2 : IntKind.i64.wrap (1 + x) = 1 + x := IntWalk.i64_in _ (by omega)
  obtain ⟨a, ha, lo2, hi2⟩ : ∃ a, (if 0 > 1 + x then 0 else 1 + x) = a ∧ 0 ≤ a ∧ a ≤ 2199023255552 := ⟨_, rfl, by split <;> omega, by split <;> omega⟩
  obtain ⟨b, hb, lo3, hi3⟩ : ∃ b, (if 8 < a then 8 else a) = b ∧ 0 ≤ b ∧ b ≤ 16 := ⟨_, rfl, by split <;> omega, by split <;> omega⟩
  go_wp2_with fail
  refine (near_any p b lo3 (by omega) _ s3).mono ?_
  rintro e w4 ⟨d, rfl, hd, s4, o4⟩
  go_wp2_with fail
  go_ret3
  exact ⟨n, _, d, rfl, ((o2.trans o3).trans o4).after b1 hp (Nat.le_refl _)⟩

set_option maxRecDepth 100000 in
set_option maxHeartbeats 400000 in
theorem drawCheck_any (ad : Option Addr) (len cap : Nat) (w : World) (hc : Code ad len w) :
    Calls Try.prog 48 #[.slice ad len cap] w (fun e w' => ∃ n x : Int, e = .returned (.tuple #[.int .i64 n, .int .i64 x]) ∧ Below w.heap.size w w') := by
  go_enter Try.func48, Try.ntmps48
  go_wp2_with fail
  refine (from_any ad len cap w hc).mono ?_
  rintro e w1 ⟨p, rfl, hp, hp1, s1, b1⟩
  go_wp2_with fail
  refine (sided_any p _ s1).mono ?_
  rintro e w2 ⟨n, rfl, hn, s2, o2⟩
  have hw1 : IntKind.i64.wrap (n - 1) = n - 1 := IntWalk.i64_in _ (by omega)
  obtain ⟨m1, hm1, lo1, hi1⟩ := top_max n hn
  go_wp2_with fail
  refine (near_any p m1 lo1 (by omega) _ s2).mono ?_
  rintro e w3 ⟨x, rfl, hx, s3, o3⟩
  go_wp2_with fail
  go_ret2
  exact ⟨n, _, rfl, (o2.trans o3).after b1 hp (Nat.le_refl _)⟩

theorem results_four {P : Program} {fn : Func} {a b c d : Tmp} (h : fn.results = #[.tmp a, .tmp b, .tmp c, .tmp d]) (tmps : Array Value) (w : World) :
    (results fn tmps).run P w = .ok (.tuple #[tmps.getD a undef, tmps.getD b undef, tmps.getD c undef, tmps.getD d undef]) w := by
  simp [results, h]

theorem top_two (n : Int) (h : -4 ≤ n ∧ n ≤ 16) : ∃ m, (if 0 > 2 * (n - 1) then 0 else 2 * (n - 1)) = m ∧ 0 ≤ m ∧ m ≤ 30 := ⟨_, rfl, by split <;> omega, by split <;> omega⟩

set_option maxRecDepth 100000 in
set_option maxHeartbeats 800000 in
theorem drawDisc_any (ad : Option Addr) (len cap : Nat) (w : World) (hc : Code ad len w) :
    Calls Try.prog 41 #[.slice ad len cap] w (fun e w' => ∃ n v u r : Int, e = .returned (.tuple #[.int .i64 n, .int .i64 v, .int .i64 u, .int .i64 r]) ∧ Below w.heap.size w w') := by
  go_enter Try.func41, Try.ntmps41
  go_wp2_with fail
  refine (from_any ad len cap w hc).mono ?_
  rintro e w1 ⟨p, rfl, hp, hp1, s1, b1⟩
  go_wp2_with fail
  refine (sided_any p _ s1).mono ?_
  rintro e w2 ⟨n, rfl, hn, s2, o2⟩
  have hw1 : IntKind.i64.wrap (n - 1) = n - 1 := IntWalk.i64_in _ (by omega)
  have hw2 : IntKind.i64.wrap (2 * (n - 1)) = 2 * (n - 1) := IntWalk.i64_in _ (by omega)
  obtain ⟨m1, hm1, lo1, hi1⟩ := top_two n hn
  have hw3 : IntKind.i64.wrap (m1 + 1) = m1 + 1 := IntWalk.i64_in _ (by omega)
  go_wp2_with fail
  refine (near_any p m1 lo1 (by omega) _ s2).mono ?_
  rintro e w3 ⟨v, rfl, hv, s3, o3⟩
  go_wp2_with fail
  refine (next_any p (m1 + 1) _ s3).mono ?_
  rintro e w4 ⟨u, rfl, u0, u1, s4, o4⟩
  go_wp2_with fail
  refine (next_any p 20 _ s4).mono ?_
  rintro e w5 ⟨c1, rfl, c10, c11, s5, o5⟩
  go_wp2_with fail
  refine (next_any p 60 _ s5).mono ?_
  rintro e w6 ⟨c2, rfl, c20, c21, s6, o6⟩
  go_wp2_with fail
  refine (near_any p 1000 (by omega) (by omega) _ s6).mono ?_
  rintro e w7 ⟨c3, rfl, hc3, s7, o7⟩
  go_wp2_with fail
  refine (pick_lit p [c1, c2, c3] _ s7 (by simp) (by simp)).mono ?_
  rintro e w8 ⟨r, hr, rfl, s8, o8⟩
  go_wp2_with fail
  refine bodyPost_ret (v := .tuple #[.int .i64 n, .int .i64 v, .int .i64 u, .int .i64 r]) (results_four (a := 2) (b := 3) (c := 4) (d := 5) rfl _ _) rfl ⟨n, v, u, r, rfl, ((((((o2.trans o3).trans o4).trans o5).trans o6).trans o7).trans o8).after b1 hp (Nat.le_refl _)⟩

set_option maxRecDepth 100000 in
set_option maxHeartbeats 800000 in
theorem drawZone_any (ad : Option Addr) (len cap : Nat) (w : World) (hc : Code ad len w) :
    Calls Try.prog 51 #[.slice ad len cap] w (fun e w' => ∃ n v u r : Int, e = .returned (.tuple #[.int .i64 n, .int .i64 v, .int .i64 u, .int .i64 r]) ∧ Below w.heap.size w w') := by
  go_enter Try.func51, Try.ntmps51
  go_wp2_with fail
  refine (from_any ad len cap w hc).mono ?_
  rintro e w1 ⟨p, rfl, hp, hp1, s1, b1⟩
  go_wp2_with fail
  refine (sided_any p _ s1).mono ?_
  rintro e w2 ⟨n, rfl, hn, s2, o2⟩
  have hw1 : IntKind.i64.wrap (n - 1) = n - 1 := IntWalk.i64_in _ (by omega)
  have hw2 : IntKind.i64.wrap (2 * (n - 1)) = 2 * (n - 1) := IntWalk.i64_in _ (by omega)
  obtain ⟨m1, hm1, lo1, hi1⟩ := top_two n hn
  have hw3 : IntKind.i64.wrap (m1 + 1) = m1 + 1 := IntWalk.i64_in _ (by omega)
  go_wp2_with fail
  refine (near_any p m1 lo1 (by omega) _ s2).mono ?_
  rintro e w3 ⟨v, rfl, hv, s3, o3⟩
  go_wp2_with fail
  refine (next_any p (m1 + 1) _ s3).mono ?_
  rintro e w4 ⟨u, rfl, u0, u1, s4, o4⟩
  go_wp2_with fail
  refine (next_any p 8 _ s4).mono ?_
  rintro e w5 ⟨c1, rfl, c10, c11, s5, o5⟩
  go_wp2_with fail
  refine (next_any p 30 _ s5).mono ?_
  rintro e w6 ⟨c2, rfl, c20, c21, s6, o6⟩
  go_wp2_with fail
  refine (near_any p 999 (by omega) (by omega) _ s6).mono ?_
  rintro e w7 ⟨c3, rfl, hc3, s7, o7⟩
  go_wp2_with fail
  refine (pick_lit p [c1, c2, c3] _ s7 (by simp) (by simp)).mono ?_
  rintro e w8 ⟨r, hr, rfl, s8, o8⟩
  have hr' : -4611686018427387904 ≤ r ∧ r ≤ 1099511627776 := by simp at hr; omega
  have hw4 : IntKind.i64.wrap (1 + r) = 1 + r := IntWalk.i64_in _ (by omega)
  clear hr
  go_wp2_with fail
  refine bodyPost_ret (v := .tuple #[.int .i64 n, .int .i64 v, .int .i64 u, .int .i64 (1 + r)]) (results_four (a := 2) (b := 3) (c := 4) (d := 5) rfl _ _) rfl ⟨n, v, u, 1 + r, rfl, ((((((o2.trans o3).trans o4).trans o5).trans o6).trans o7).trans o8).after b1 hp (Nat.le_refl _)⟩

set_option maxRecDepth 100000 in
set_option maxHeartbeats 800000 in
theorem drawBlazed_any (ad : Option Addr) (len cap : Nat) (w : World) (hc : Code ad len w) :
    Calls Try.prog 54 #[.slice ad len cap] w (fun e w' => ∃ n x d : Int, e = .returned (.tuple #[.int .i64 n, .int .i64 x, .int .i64 d]) ∧ Below w.heap.size w w') := by
  go_enter Try.func54, Try.ntmps54
  go_wp2_with fail
  refine (from_any ad len cap w hc).mono ?_
  rintro e w1 ⟨p, rfl, hp, hp1, s1, b1⟩
  go_wp2_with fail
  refine (sided_any p _ s1).mono ?_
  rintro e w2 ⟨n, rfl, hn, s2, o2⟩
  have hw1 : IntKind.i64.wrap (n - 1) = n - 1 := IntWalk.i64_in _ (by omega)
  obtain ⟨m1, hm1, lo1, hi1⟩ := top_max n hn
  go_wp2_with fail
  refine (near_any p m1 lo1 (by omega) _ s2).mono ?_
  rintro e w3 ⟨x, rfl, hx, s3, o3⟩
  have hw2 : IntKind.i64.wrap (1 + x) = 1 + x := IntWalk.i64_in _ (by omega)
  go_wp2_with fail
  refine (next_any p 131 _ s3).mono ?_
  rintro e w4 ⟨t, rfl, t0, t1, s4, o4⟩
  have hw3 : IntKind.i64.wrap (t - 65) = t - 65 := IntWalk.i64_in _ (by omega)
  go_wp2_with fail
  refine (pick_lit p [8, 16, 32, t - 65] _ s4 (by simp) (by simp)).mono ?_
  rintro e w5 ⟨r, hr, rfl, s5, o5⟩
  go_wp2_with fail
  go_ret3
  exact ⟨n, _, r, rfl, (((o2.trans o3).trans o4).trans o5).after b1 hp (Nat.le_refl _)⟩

set_option maxRecDepth 100000 in
set_option maxHeartbeats 800000 in
theorem drawLens_any (ad : Option Addr) (len cap : Nat) (w : World) (hc : Code ad len w) :
    Calls Try.prog 57 #[.slice ad len cap] w (fun e w' => ∃ n v u r : Int, e = .returned (.tuple #[.int .i64 n, .int .i64 v, .int .i64 u, .int .i64 r]) ∧ Below w.heap.size w w') := by
  go_enter Try.func57, Try.ntmps57
  go_wp2_with fail
  refine (from_any ad len cap w hc).mono ?_
  rintro e w1 ⟨p, rfl, hp, hp1, s1, b1⟩
  go_wp2_with fail
  refine (sided_any p _ s1).mono ?_
  rintro e w2 ⟨n, rfl, hn, s2, o2⟩
  have hw1 : IntKind.i64.wrap (n - 1) = n - 1 := IntWalk.i64_in _ (by omega)
  have hw2 : IntKind.i64.wrap (2 * (n - 1)) = 2 * (n - 1) := IntWalk.i64_in _ (by omega)
  obtain ⟨m1, hm1, lo1, hi1⟩ := top_two n hn
  have hw3 : IntKind.i64.wrap (m1 + 1) = m1 + 1 := IntWalk.i64_in _ (by omega)
  go_wp2_with fail
  refine (near_any p m1 lo1 (by omega) _ s2).mono ?_
  rintro e w3 ⟨v, rfl, hv, s3, o3⟩
  go_wp2_with fail
  refine (next_any p (m1 + 1) _ s3).mono ?_
  rintro e w4 ⟨u, rfl, u0, u1, s4, o4⟩
  go_wp2_with fail
  refine (next_any p 131 _ s4).mono ?_
  rintro e w5 ⟨t, rfl, t0, t1, s5, o5⟩
  have hw4 : IntKind.i64.wrap (t - 65) = t - 65 := IntWalk.i64_in _ (by omega)
  go_wp2_with fail
  refine (pick_lit p [1, -1, 4, 8, t - 65] _ s5 (by simp) (by simp)).mono ?_
  rintro e w6 ⟨r, hr, rfl, s6, o6⟩
  go_wp2_with fail
  refine bodyPost_ret (v := .tuple #[.int .i64 n, .int .i64 v, .int .i64 u, .int .i64 r]) (results_four (a := 2) (b := 3) (c := 4) (d := 5) rfl _ _) rfl ⟨n, v, u, r, rfl, ((((o2.trans o3).trans o4).trans o5).trans o6).after b1 hp (Nat.le_refl _)⟩
end Go.Proofs.Ytjmfffgddmnkmaa
