/- The program's remainder by a length, and its iterator over a list at other places. Condition: at most 64 places, numbers up to 200. -/
import Derived.Test.YtclflnpbiiimiaaM20
import Derived.BigQuiet
namespace Go.Proofs.Ytclflnpbiiimiaa
open Go Go.RowKit Go.Shelf

theorem tmod_way (k : Int) (n : Nat) (hn : 0 < n) : (0 ≤ k.tmod n ∧ k.tmod n < n ∧ k % n = k.tmod n) ∨ (k.tmod n < 0 ∧ -n < k.tmod n ∧ k % n = k.tmod n + n) := by
  have h1 : k.tmod n = k - n * k.tdiv n := Int.tmod_def _ _
  have h2 : k % n = k.tmod n % n := by
    rw [h1, Int.sub_mul_emod_self_left]
  rcases Int.lt_or_le k 0 with h0 | h0
  · have h3 : (-k).tmod n = (-k) % n := Int.tmod_eq_emod_of_nonneg (by omega)
    rw [Int.neg_tmod] at h3
    have h4 := Int.emod_nonneg (-k) (show (n : Int) ≠ 0 by omega)
    have h5 := Int.emod_lt_of_pos (-k) (show (0 : Int) < n by omega)
    by_cases h6 : k.tmod n = 0
    · left
      rw [h2, h6]
      exact ⟨by omega, by omega, Int.zero_emod _⟩
    · right
      refine ⟨by omega, by omega, ?_⟩
      rw [h2, ← Int.add_emod_right, Int.emod_eq_of_lt (by omega) (by omega)]
  · have h3 : k.tmod n = k % n := Int.tmod_eq_emod_of_nonneg h0
    have h4 := Int.emod_nonneg k (show (n : Int) ≠ 0 by omega)
    have h5 := Int.emod_lt_of_pos k (show (0 : Int) < n by omega)
    exact .inl ⟨by omega, by omega, h3.symm⟩

set_option maxRecDepth 100000 in
theorem remN_any (k : Int) (n : Nat) (hn : 0 < n) (hn2 : n ≤ 64) (w : World) :
    Calls Try.prog 61 #[.int .i64 k, .int .i64 (n : Int)] w fun e w' => e = .returned (.int .i64 (k % n)) ∧ w = w' := by
  have hz : ¬ n = 0 := by omega
  rcases tmod_way k n hn with ⟨h1, h2, h3⟩ | ⟨h1, h2, h3⟩
  · rw [h3]
    generalize ht : k.tmod n = t at *
    have hd : decide (t < 0) = false := decide_eq_false (by omega)
    go_enter Try.func61, Try.ntmps61
    go_wp2
    go_ret
    exact ⟨rfl, rfl⟩
  · rw [h3]
    generalize ht : k.tmod n = t at *
    have hd : decide (t < 0) = true := decide_eq_true (by omega)
    have hw : IntKind.i64.wrap (t + n) = t + n := IntWalk.i64_in _ (by omega)
    go_enter Try.func61, Try.ntmps61
    go_wp2
    go_ret
    exact ⟨rfl, rfl⟩

set_option maxRecDepth 100000 in
set_option maxHeartbeats 1600000 in
theorem rearrAt_any (j n : Nat) (hn : 0 < n) (hn2 : n ≤ 64) (ad : Option Addr) (cap : Nat) (L : List Nat) (g : Nat) (lb : Array Value) (hg : ∀ (j : Int) v, (callFunc g (#[.int .i64 j] ++ lb)).run Try.prog v = .ok (.enter g (#[.int .i64 j] ++ lb)) v)
    (p : Int) (B : Nat) (w : World) (hC : CameF ad n L w)
    (h1 : w.cell? ⟨B, 0, none⟩ = some (.slice ad n cap)) (h2 : w.cell? ⟨B + 1, 0, none⟩ = some (.func (.func g) #[] lb)) (h3 : w.cell? ⟨B + 2, 0, none⟩ = some (.int .i64 n))
    (hp : ∀ W, Below w.heap.size w W → Calls Try.prog g (#[.int .i64 (j : Int)] ++ lb) W fun e W' => e = .returned (.int .i64 p) ∧ W = W') :
    Calls Try.prog 60 #[.int .i64 (j : Int), .pointer (some ⟨B, 0, none⟩), .pointer (some ⟨B + 1, 0, none⟩), .pointer (some ⟨B + 2, 0, none⟩)] w fun e w' =>
      e = .returned (.float .f32 (L.getD (p % n).toNat 0)) ∧ ∃ d, w' = w.drewN d := by
  have hr1 := Int.emod_nonneg p (show (n : Int) ≠ 0 by omega)
  have hr2 := Int.emod_lt_of_pos p (show (0 : Int) < n by omega)
  obtain ⟨r, hr⟩ : ∃ r : Nat, p % n = r := ⟨(p % n).toNat, by omega⟩
  obtain ⟨b, off, rfl, hb, hc⟩ := hC.2 hn
  have hrn : r < n := by omega
  have c1 := hc r hrn
  have HR := Lib.hid (remN_any p n hn hn2)
  have HP := Lib.hid (fun d => hp (w.drewN d) (below_drewN (Below.refl _ w) d))
  rw [hr] at HR ⊢
  rw [Int.toNat_natCast]
  generalize L.getD r 0 = x at *
  clear hp hC hb hc hr1 hr2 hr
  go_enter Try.func60, Try.ntmps60
  go_wp2_with fail
  go_quiet (first | (go_at_call 61; exact Calls.quiet_of_same ((HR.out _).mono fun _ _ h => ⟨h.1, h.2.symm⟩)) | (exact Calls.quiet_of_same ((HP.out _).mono fun _ _ h => ⟨h.1, h.2.symm⟩)))
  go_wp2
  go_ret
  exact ⟨rfl, _, rfl⟩

theorem rearr_enters : ∀ (args : Array Value) w, (callFunc 60 args).run Try.prog w = .ok (.enter 60 args) w := enters_of Try.func60 (by kernel_rfl) rfl

set_option maxRecDepth 100000 in
set_option maxHeartbeats 1600000 in
theorem rearr_any (n : Nat) (hn : 0 < n) (hn2 : n ≤ 64) (ad : Option Addr) (cap : Nat) (L : List Nat) (g : Nat) (lb : Array Value) (hg : ∀ (j : Int) v, (callFunc g (#[.int .i64 j] ++ lb)).run Try.prog v = .ok (.enter g (#[.int .i64 j] ++ lb)) v)
    (P : Nat → Int) (w : World) (hC : CameF ad n L w) (hP : ∀ j, j < n → ∀ W, Below w.heap.size w W → Calls Try.prog g (#[.int .i64 (j : Int)] ++ lb) W fun e W' => e = .returned (.int .i64 (P j)) ∧ W = W') :
    Calls Try.prog 35 #[.slice ad n cap, .func (.func g) #[] lb] w fun e w' =>
      (∃ lb', e = .returned (.func (.func 63) #[] lb') ∧ Seq 63 lb' n (fun j v => v = L.getD (P j % n).toNat 0) w'.heap.size w') ∧ Below w.heap.size w w' := by
  have HN : Hid (∀ w3, w3 = (((w.alloc (.cells #[.slice ad n cap] 25)).alloc (.cells #[.func (.func g) #[] lb] 55)).alloc (.cells #[.int .i64 n] 2)) → Below w.heap.size w w3 ∧
      Calls Try.prog 53 #[.int .i64 n, .func (.func 60) #[] #[.pointer (some ⟨w.heap.size, 0, none⟩), .pointer (some ⟨w.heap.size + 1, 0, none⟩), .pointer (some ⟨w.heap.size + 2, 0, none⟩)]] w3 fun e w' =>
        (∃ lb', e = .returned (.func (.func 63) #[] lb') ∧ Seq 63 lb' n (fun j v => v = L.getD (P j % n).toNat 0) w'.heap.size w') ∧ Below w3.heap.size w3 w') := Lib.hid (fun w3 hw3 => by
    have B1 : Below w.heap.size w w3 := by
      rw [hw3]
      exact (((Below.refl _ w).alloc (Nat.le_refl _) _).alloc (by simp) _).alloc (by simp; omega) _
    have b1 : Boxed w3 w.heap.size 25 (.slice ad n cap) := by rw [hw3]; exact ((Boxed.new w _ _).alloc _).alloc _
    have b2 : Boxed w3 (w.heap.size + 1) 55 (.func (.func g) #[] lb) := by
      have h := Boxed.new (w.alloc (.cells #[.slice ad n cap] 25)) 55 (.func (.func g) #[] lb)
      rw [World.size_alloc] at h
      rw [hw3]; exact h.alloc _
    have b3 : Boxed w3 (w.heap.size + 2) 2 (.int .i64 n) := by
      have h := Boxed.new ((w.alloc (.cells #[.slice ad n cap] 25)).alloc (.cells #[.func (.func g) #[] lb] 55)) 2 (.int .i64 n)
      rw [World.size_alloc, World.size_alloc] at h
      rw [hw3]; exact h
    clear hw3
    refine ⟨B1, inOrder_any n hn2 _ _ _ (fun j v => rearr_enters _ v) w3 (fun j hj W hW => ?_)⟩
    refine (rearrAt_any j n hn hn2 ad cap L g lb hg (P j) w.heap.size W ((hC.below B1 (Nat.le_refl _)).below hW (Nat.le_refl _)) ((hW.cell (p := ⟨w.heap.size, 0, none⟩) b1.lt).trans b1.cell) ((hW.cell (p := ⟨w.heap.size + 1, 0, none⟩) b2.lt).trans b2.cell) ((hW.cell (p := ⟨w.heap.size + 2, 0, none⟩) b3.lt).trans b3.cell) (fun V hV => hP j hj V (B1.trans ((hW.mono B1.size).trans (hV.mono (Nat.le_trans B1.size hW.size)))))).mono ?_
    rintro e W' ⟨rfl, d, rfl⟩
    exact ⟨⟨_, rfl, rfl⟩, below_drewN (Below.refl _ _) d⟩)
  clear hP hC hg
  have hmf : ∀ (fn : Fn) (first cap : Array Value) (w : World), (Instr.makeFunc fn first cap).run Try.prog w = .ok (.func fn first cap) w := fun _ _ _ _ => rfl
  go_enter Try.func35, Try.ntmps35
  go_wp2_with fail
  obtain ⟨hb, hc⟩ := HN.out _ rfl
  have HB := Lib.hid hb
  have HC := Lib.hid hc
  clear hb hc HN
  generalize ((w.alloc (.cells #[.slice ad n cap] 25)).alloc (.cells #[.func (.func g) #[] lb] 55)).alloc (.cells #[.int .i64 n] 2) = w3 at *
  refine HC.out.mono ?_
  rintro e w1 ⟨⟨lb', rfl, hS⟩, hb⟩
  have HS := Lib.hid hS
  have HB2 := Lib.hid (HB.out.trans (hb.mono HB.out.size))
  clear hS hb
  go_wp2_with fail
  go_ret
  exact ⟨⟨lb', rfl, HS.out⟩, HB2.out⟩

end Go.Proofs.Ytclflnpbiiimiaa
