/- What the program asks of numbers in chapter 3: whether they lie within two, whether they are a centre, distances, the rules' array, the cell of an opening. Condition: none. The five rules of open cells, as the program has them. Condition: rows and columns within a side; a period and a size that are not 0. -/
import Derived.Test.YtjmfffgddmnkmaaS3
import Derived.Deep.QuietTactic
import Derived.BigQuiet
namespace Go.Proofs.Ytjmfffgddmnkmaa
open Go Go.RowKit

set_option maxRecDepth 100000 in
set_option maxHeartbeats 400000 in
theorem between_any (a k b : Int) (w : World) : Calls Try.prog 92 #[.int .i64 a, .int .i64 k, .int .i64 b] w fun e w' => e = .returned (.bool (inside k a b)) ∧ w = w' := by
  by_cases h1 : a ≤ k
  · by_cases h2 : k ≤ b
    · have e : inside k a b = true := by simp [inside, h1, h2]
      rw [e]
      go_enter Try.func92, Try.ntmps92
      go_wp2
      go_ret
      exact ⟨rfl, rfl⟩
    · have e : inside k a b = false := by simp [inside, h2]
      rw [e]
      go_enter Try.func92, Try.ntmps92
      go_wp2
      go_ret
      exact ⟨rfl, rfl⟩
  · have e : inside k a b = false := by simp [inside, h1]
    rw [e]
    go_enter Try.func92, Try.ntmps92
    go_wp2
    go_ret
    exact ⟨rfl, rfl⟩

/-- a centre, where the side is one -/
theorem isCentre_any (n v u : Int) (hn : side n = true) (w : World) : Calls Try.prog 96 #[.int .i64 n, .int .i64 v, .int .i64 u] w fun e w' => e = .returned (.bool (centre n v u)) ∧ w = w' := by
  have hb : 1 ≤ n ∧ n ≤ 8 := by rcases side_yes n hn with rfl | rfl | rfl | rfl <;> omega
  have e1 : IntKind.i64.wrap (n - 1) = n - 1 := IntWalk.i64_in _ (by omega)
  have e2 : IntKind.i64.wrap (2 * (n - 1)) = 2 * (n - 1) := IntWalk.i64_in _ (by omega)
  unfold centre
  rw [hn]
  cases hv : inside v 0 (2 * (n - 1))
  · go_enter Try.func96, Try.ntmps96
    go_wp2_with fail
    refine (between_any _ _ _ _).mono ?_
    rw [hv]
    rintro e w' ⟨rfl, rfl⟩
    go_wp2_with fail
    go_ret
    exact ⟨rfl, rfl⟩
  · go_enter Try.func96, Try.ntmps96
    go_wp2_with fail
    refine (between_any _ _ _ _).mono ?_
    rw [hv]
    rintro e w' ⟨rfl, rfl⟩
    go_wp2_with fail
    refine (between_any _ _ _ _).mono ?_
    rintro e w' ⟨rfl, rfl⟩
    go_wp2_with fail
    go_ret
    exact ⟨by simp, rfl⟩

set_option maxRecDepth 100000 in
set_option maxHeartbeats 400000 in
theorem distanceFrom_any (y x : Nat) (v u : Int) (hy : y < 8) (hx : x < 8) (hv : 0 ≤ v ∧ v ≤ 14) (hu : 0 ≤ u ∧ u ≤ 14) (w : World) :
    Calls Try.prog 103 #[.int .i64 v, .int .i64 u, .int .i64 y, .int .i64 x] w fun e w' => e = .returned (.int .i64 (dist y x v u)) ∧ w = w' := by
  have h1 := sq_small (2 * (y : Int) - v) (by omega)
  have h2 := sq_small (2 * (x : Int) - u) (by omega)
  have e1 : IntKind.i64.wrap (2 * (y : Int)) = 2 * y := IntWalk.i64_in _ (by omega)
  have e2 : IntKind.i64.wrap (2 * (x : Int)) = 2 * x := IntWalk.i64_in _ (by omega)
  have e3 : IntKind.i64.wrap (2 * (y : Int) - v) = 2 * y - v := IntWalk.i64_in _ (by omega)
  have e4 : IntKind.i64.wrap (2 * (x : Int) - u) = 2 * x - u := IntWalk.i64_in _ (by omega)
  have e5 : IntKind.i64.wrap ((2 * (y : Int) - v) * (2 * (y : Int) - v)) = (2 * (y : Int) - v) * (2 * (y : Int) - v) := IntWalk.i64_in _ (by omega)
  have e6 : IntKind.i64.wrap ((2 * (x : Int) - u) * (2 * (x : Int) - u)) = (2 * (x : Int) - u) * (2 * (x : Int) - u) := IntWalk.i64_in _ (by omega)
  have e7 : IntKind.i64.wrap ((2 * (y : Int) - v) * (2 * (y : Int) - v) + (2 * (x : Int) - u) * (2 * (x : Int) - u)) = (2 * (y : Int) - v) * (2 * (y : Int) - v) + (2 * (x : Int) - u) * (2 * (x : Int) - u) := IntWalk.i64_in _ (by omega)
  have e8 : IntKind.i64.wrap (dist y x v u) = dist y x v u := IntWalk.i64_in _ (by unfold dist; omega)
  go_enter Try.func103, Try.ntmps103
  go_wp2
  go_ret
  exact ⟨rfl, rfl⟩

/-- the cell of an opening -/
theorem cell_any (b : Bool) (w : World) : Calls Try.prog 121 #[.bool b] w fun e w' => e = .returned (.complex .f32 (mark b).1 (mark b).2) ∧ w = w' := by
  cases b
  · go_enter Try.func121, Try.ntmps121
    go_wp2
    go_ret
    exact ⟨rfl, rfl⟩
  · go_enter Try.func121, Try.ntmps121
    go_wp2
    go_ret
    exact ⟨rfl, rfl⟩

theorem results_row_one {P : Program} {fn : Func} {p : Tmp} {ty : TypeId} (h : fn.results = #[.cell p ty]) (tmps : Array Value) (w : World) (g : Nat) (t : TypeId) (cs : Array Value) (fr : Nat × Nat) (d : TypeDesc)
    (hp : tmps.getD p undef = .pointer (some ⟨g, 0, none⟩)) (hg : w.heap[g]? = some (.cells cs t fr))
    (hu : P.underlying ty = some d) (hd : (match d with | .struct _ | .array _ _ => true | _ => false) = true) (hi : (P.info? ty).map (·.size) = some cs.size) :
    (results fn tmps).run P w = .ok (.agg cs) w := by
  have hp' : tmps[p]?.getD undef = .pointer (some ⟨g, 0, none⟩) := by simpa using hp
  simp only [results, h]
  simp [asAddr, hp', run_loadVar_row w g t ty cs fr d hg hu hd hi]

/-- a store of a function -/
@[go_sem] theorem run_store_func (P : Program) (w : World) (a : Addr) (m : Mode) (f : Fn) (x y : Array Value) : (store a (.func f x y) m).run P w = stored P w a (.func f x y) m := run_store P w a _ m rfl
/-- the rules, in their order -/
def ruleList : Array Value := #[.func (.func 131) #[] #[], .func (.func 132) #[] #[], .func (.func 133) #[] #[], .func (.func 134) #[] #[], .func (.func 135) #[] #[]]
theorem openRules_any (w : World) : Calls Try.prog 119 #[] w fun e w' => e = .returned (.agg ruleList) ∧ Below w.heap.size w w' := by
  have HI : Hid ((Try.prog.info? 117).map (·.size) = some ruleList.size) := Lib.hid (by kernel_rfl)
  go_enter Try.func119, Try.ntmps119
  go_wp2
  refine bodyPost_ret (v := .agg ruleList) (results_row_one (fn := Try.f119) (p := 0) (ty := 117) rfl _ _ w.heap.size 117 ruleList (0, 0) _ rfl (h1_0 _ _) Try.underlying117 rfl HI.out) rfl ⟨rfl, ?_⟩
  exact (Below.refl _ _).alloc (Nat.le_refl _) _
end Go.Proofs.Ytjmfffgddmnkmaa

namespace Go.Proofs.Ytjmfffgddmnkmaa
open Go Go.RowKit

set_option maxRecDepth 100000 in
set_option maxHeartbeats 400000 in
theorem isInSlit_any (y x : Nat) (a d : Int) (_ : y < 8) (_ : x < 8) (ha : 0 ≤ a ∧ a ≤ 8) (hd : 0 ≤ d ∧ d ≤ 8) (w : World) :
    Calls Try.prog 131 #[.agg #[.int .i64 0, .int .i64 0, .int .i64 a, .int .i64 0, .int .i64 d], .int .i64 y, .int .i64 x] w fun e w' => e = .returned (.bool (decide (a ≤ (x : Int)) && decide ((x : Int) < a + d))) ∧ Below w.heap.size w w' := by
  have e1 : IntKind.i64.wrap (a + d) = a + d := IntWalk.i64_in _ (by omega)
  by_cases h1 : a ≤ (x : Int)
  · have h1' : decide ((x : Int) ≥ a) = true := by simp; omega
    have h1'' : decide (a ≤ (x : Int)) = true := by simp; omega
    rw [h1'', Bool.true_and]
    go_enter Try.func131, Try.ntmps131
    go_wp2
    go_ret
    exact ⟨rfl, (Below.refl _ _).alloc (Nat.le_refl _) _⟩
  · have h1' : decide ((x : Int) ≥ a) = false := by simp; omega
    have h1'' : decide (a ≤ (x : Int)) = false := by simp; omega
    rw [h1'', Bool.false_and]
    go_enter Try.func131, Try.ntmps131
    go_wp2
    go_ret
    exact ⟨rfl, (Below.refl _ _).alloc (Nat.le_refl _) _⟩

set_option maxRecDepth 100000 in
set_option maxHeartbeats 400000 in
theorem isInDisc_any (y x : Nat) (v u r : Int) (hy : y < 8) (hx : x < 8) (hv : 0 ≤ v ∧ v ≤ 14) (hu : 0 ≤ u ∧ u ≤ 14) (w : World) :
    Calls Try.prog 132 #[.agg #[.int .i64 v, .int .i64 u, .int .i64 0, .int .i64 0, .int .i64 r], .int .i64 y, .int .i64 x] w fun e w' => e = .returned (.bool (decide (dist y x v u ≤ r))) ∧ Below w.heap.size w w' := by
  have HD := Lib.hid (distanceFrom_any y x v u hy hx hv hu)
  go_enter Try.func132, Try.ntmps132
  go_wp2_with fail
  go_quiet ((go_at_call 103; exact Calls.quiet_of_same ((HD.out _).mono fun e w' h => ⟨h.1, h.2.symm⟩)))
  go_wp2
  go_ret
  exact ⟨rfl, below_drewN ((Below.refl _ _).alloc (Nat.le_refl _) _) _⟩

set_option maxRecDepth 100000 in
set_option maxHeartbeats 400000 in
theorem isInGrating_any (y x : Nat) (p q : Int) (_ : y < 8) (hx : x < 8) (hp : 1 ≤ p ∧ p ≤ 8) (w : World) :
    Calls Try.prog 133 #[.agg #[.int .i64 0, .int .i64 0, .int .i64 0, .int .i64 p, .int .i64 q], .int .i64 y, .int .i64 x] w fun e w' => e = .returned (.bool (decide ((x : Int) % p < q))) ∧ Below w.heap.size w w' := by
  have hp0 : p ≠ 0 := by omega
  have hp00 : (p == 0) = false := by simp; omega
  have hm : (x : Int).tmod p = (x : Int) % p := Int.tmod_eq_emod_of_nonneg (by omega)
  have hb0 : 0 ≤ (x : Int) % p := Int.emod_nonneg _ hp0
  have hb1 : (x : Int) % p < p := Int.emod_lt_of_pos _ (by omega)
  generalize (x : Int) % p = m at *
  have hw : IntKind.i64.wrap m = m := IntWalk.i64_in _ (by omega)
  go_enter Try.func133, Try.ntmps133
  go_wp2_with fail
  go_quiet (fail)
  go_wp2
  go_ret
  exact ⟨rfl, below_drewN ((Below.refl _ _).alloc (Nat.le_refl _) _) _⟩

set_option maxRecDepth 100000 in
set_option maxHeartbeats 400000 in
theorem isInCheck_any (y x : Nat) (p : Int) (hy : y < 8) (hx : x < 8) (hp : 1 ≤ p) (w : World) :
    Calls Try.prog 134 #[.agg #[.int .i64 0, .int .i64 0, .int .i64 0, .int .i64 p, .int .i64 0], .int .i64 y, .int .i64 x] w fun e w' => e = .returned (.bool (((y : Int) / p + (x : Int) / p) % 2 == 0)) ∧ Below w.heap.size w w' := by
  have ha0 : 0 ≤ (y : Int) / p := Int.ediv_nonneg (by omega) (by omega)
  have ha1 : (y : Int) / p ≤ y := Int.ediv_le_self _ (by omega)
  have hb0 : 0 ≤ (x : Int) / p := Int.ediv_nonneg (by omega) (by omega)
  have hb1 : (x : Int) / p ≤ x := Int.ediv_le_self _ (by omega)
  have ha : (y : Int).tdiv p = (y : Int) / p := Int.tdiv_eq_ediv_of_nonneg (by omega)
  have hb' : (x : Int).tdiv p = (x : Int) / p := Int.tdiv_eq_ediv_of_nonneg (by omega)
  generalize (y : Int) / p = a at *
  generalize (x : Int) / p = b at *
  have hwa : IntKind.i64.wrap a = a := IntWalk.i64_in _ (by omega)
  have hwb : IntKind.i64.wrap b = b := IntWalk.i64_in _ (by omega)
  have hwab : IntKind.i64.wrap (a + b) = a + b := IntWalk.i64_in _ (by omega)
  have hm : (a + b).tmod 2 = (a + b) % 2 := Int.tmod_eq_emod_of_nonneg (by omega)
  have hp0 : p ≠ 0 := by omega
  have hp00 : (p == 0) = false := by simp; omega
  go_enter Try.func134, Try.ntmps134
  go_wp2_with fail
  go_quiet (fail)
  go_wp2
  go_ret
  exact ⟨rfl, below_drewN ((Below.refl _ _).alloc (Nat.le_refl _) _) _⟩

set_option maxRecDepth 100000 in
set_option maxHeartbeats 400000 in
theorem isInZones_any (y x : Nat) (v u q : Int) (hy : y < 8) (hx : x < 8) (hv : 0 ≤ v ∧ v ≤ 14) (hu : 0 ≤ u ∧ u ≤ 14) (hq : 1 ≤ q) (w : World) :
    Calls Try.prog 135 #[.agg #[.int .i64 v, .int .i64 u, .int .i64 0, .int .i64 0, .int .i64 q], .int .i64 y, .int .i64 x] w fun e w' => e = .returned (.bool (dist y x v u / q % 2 == 0)) ∧ Below w.heap.size w w' := by
  have HD := Lib.hid (distanceFrom_any y x v u hy hx hv hu)
  have hd := dist_small y x v u hy hx hv hu
  generalize dist y x v u = t at *
  have ha0 : 0 ≤ t / q := Int.ediv_nonneg (by omega) (by omega)
  have ha1 : t / q ≤ t := Int.ediv_le_self _ (by omega)
  have ha : t.tdiv q = t / q := Int.tdiv_eq_ediv_of_nonneg (by omega)
  have hm : (t / q).tmod 2 = (t / q) % 2 := Int.tmod_eq_emod_of_nonneg (by omega)
  generalize t / q = a at *
  have hwa : IntKind.i64.wrap a = a := IntWalk.i64_in _ (by omega)
  have hp0 : q ≠ 0 := by omega
  have hp00 : (q == 0) = false := by simp; omega
  go_enter Try.func135, Try.ntmps135
  go_wp2_with fail
  go_quiet ((go_at_call 103; exact Calls.quiet_of_same ((HD.out _).mono fun e w' h => ⟨h.1, h.2.symm⟩)))
  go_wp2
  go_ret
  exact ⟨rfl, below_drewN ((Below.refl _ _).alloc (Nat.le_refl _) _) _⟩
end Go.Proofs.Ytjmfffgddmnkmaa
