/- Quotients by small numbers of at least 2: finite where the number is; and the closure of the program's decoded lists. Condition: at most 64 places, numbers that are finite. What the closure of the program's correlations tells. Condition: at most 64 places, numbers that are finite. -/
import Derived.Test.YtclflnpbiiimiaaM14
import Derived.Test.YtclflnpbiiimiaaKl
import Derived.Test.YtclflnpbiiimiaaRh
import Derived.Test.YtclflnpbiiimiaaRr
import Derived.Deep.RegionHeld3
namespace Go.Proofs.Ytclflnpbiiimiaa
open Go Go.RowKit Ieee

theorem div_small (x y n i : Nat) (hx : fin x = true) (hr : single.read y = .number false n (-(i : Int))) (h1 : 8388608 ≤ n) (h2 : n < 16777216) (hi : i ≤ 22) (hy : 2 * 2 ^ i ≤ n) : ∃ r, single.div x y = some r ∧ fin r = true := by
  obtain ⟨s, m, p, hq, hm, hp1, hp2⟩ := fin_read x hx
  have ln : n.log2 = 23 := by
    have a : n.log2 < 24 := (Nat.log2_lt (by omega)).2 (by omega)
    have b : 23 ≤ n.log2 := by rw [Nat.le_log2 (by omega)]; omega
    omega
  have lm : m.log2 ≤ 23 := by
    rcases Nat.eq_zero_or_pos m with e | e
    · subst e; decide
    · have := (Nat.log2_lt (n := m) (k := 24) (by omega)).2 (by omega)
      omega
  unfold Format.div
  rw [hq, hr]
  have hdig : single.fractionBits + 2 = 25 := rfl
  simp only [Datum.quotient, show ¬ n = 0 by omega, if_false, Option.map_some, Format.write, hdig, Option.some.injEq, exists_eq_left', ln]
  generalize m.log2 = l at *
  obtain ⟨k, hk⟩ : ∃ k, k + i + l = 48 := ⟨48 - l - i, by omega⟩
  rw [show 25 + 23 - l = k + i by omega]
  have hD : 2 * (m <<< (k + i) / n) ≤ m * 2 ^ k := by
    rw [Nat.shiftLeft_eq, Nat.pow_add, ← Nat.mul_assoc]
    have a : m * 2 ^ k * 2 ^ i / n ≤ m * 2 ^ k * 2 ^ i / (2 * 2 ^ i) := Nat.div_le_div_left hy (by have := Nat.two_pow_pos i; omega)
    rw [Nat.mul_div_mul_right _ _ (Nat.two_pow_pos i)] at a
    omega
  have hb : ∀ b : Bool, b.toNat ≤ 1 := fun b => by cases b <;> simp
  have hb' := hb (m <<< (k + i) % n != 0)
  generalize 2 * (m <<< (k + i) / n) = Q at *
  generalize (m <<< (k + i) % n != 0).toNat = c at *
  refine nf_fin _ _ (104 - (p - -(i : Int) - ((k + i : Nat) : Int) - 1)).toNat _ (by omega) ?_
  have h3 : m * 2 ^ k ≤ 16777215 * 2 ^ k := Nat.mul_le_mul_right _ (by omega)
  have h4 : 2 ^ (k + 1) ≤ 2 ^ (104 - (p - -(i : Int) - ((k + i : Nat) : Int) - 1)).toNat := Nat.pow_le_pow_right (by omega) (by omega)
  have h5 : 2 ^ (k + 1) = 2 * 2 ^ k := by rw [Nat.pow_succ]; omega
  have h6 := Nat.two_pow_pos k
  generalize 2 ^ (104 - (p - -(i : Int) - ((k + i : Nat) : Int) - 1)).toNat = E at *
  generalize 2 ^ (k + 1) = E2 at *
  generalize 2 ^ k = E1 at *
  generalize m * E1 = Z at *
  have : 16777215 * E2 ≤ 16777215 * E := Nat.mul_le_mul_left _ h4
  omega

theorem half_read {n : Nat} (h : prI (n : Int) = true) : ∃ m i : Nat, single.read (half n) = .number false m (-(i : Int)) ∧ 8388608 ≤ m ∧ m < 16777216 ∧ i ≤ 22 ∧ 2 * 2 ^ i ≤ m := by
  rcases prI_yes h with e | e | e | e | e | e
  · obtain rfl : n = 3 := by omega
    exact ⟨8388608, 22, by decide +kernel, by decide, by decide, by decide, by decide⟩
  · obtain rfl : n = 7 := by omega
    exact ⟨8388608, 21, by decide +kernel, by decide, by decide, by decide, by decide⟩
  · obtain rfl : n = 11 := by omega
    exact ⟨12582912, 21, by decide +kernel, by decide, by decide, by decide, by decide⟩
  · obtain rfl : n = 19 := by omega
    exact ⟨10485760, 20, by decide +kernel, by decide, by decide, by decide, by decide⟩
  · obtain rfl : n = 23 := by omega
    exact ⟨12582912, 20, by decide +kernel, by decide, by decide, by decide, by decide⟩
  · obtain rfl : n = 31 := by omega
    exact ⟨8388608, 19, by decide +kernel, by decide, by decide, by decide, by decide⟩
theorem half_fin (x n : Nat) (hx : fin x = true) (h : prI (n : Int) = true) : fin (divS x (half n)) = true := by
  obtain ⟨m, i, h1, h2, h3, h4, h5⟩ := half_read h
  obtain ⟨r, e, hf⟩ := div_small x (half n) m i hx h1 h2 h3 h4 h5
  unfold divS
  rw [e]
  exact hf

theorem div_bad (x q : Nat) (hx : fin x = false) (hq : fin q = true) (hq0 : gtz q = true) : (∃ r, single.div x q = some r ∧ fin r = false) ∨ single.div x q = none := by
  obtain ⟨n, j, hqr, hn, _, _, _⟩ := gtz_read q hq hq0
  unfold Format.div
  rw [hqr]
  rcases inf_read x hx with ⟨s, e⟩ | ⟨s, t, e⟩
  · rw [e]; exact .inl ⟨_, rfl, inf_fin _⟩
  · rw [e]; exact .inr rfl
theorem run_div_none (x y : Nat) (h : single.div x y = none) (w : World) : (binOp .quo 40 (.float .f32 x) (.float .f32 y)).run Try.prog w = .ok (.float .f32 (nan32 (w.tape w.drawn (.nanBits .f32 x y)))) w.drew := by
  have h' : FloatKind.f32.format.div x y = none := h
  have e : (binOp .quo 40 (.float .f32 x) (.float .f32 y)).run Try.prog w = ((choose (.nanBits .f32 x y)).run Try.prog w).andThen fun y w' => .ok (.float .f32 y) w' := by
    simp [binOp, Op.floatArith, h']
  rw [e, run_choose_drew]
  rfl
/-- half of a sum, whatever it is, in a world at hand -/
theorem half_at (o : Option Nat) (x n : Nat) (hx : SR o x) (h : prI (n : Int) = true) (u : World) : ∃ r d, (binOp .quo 40 (.float .f32 x) (.float .f32 (half n))).run Try.prog u = .ok (.float .f32 r) (u.drewN d) ∧ SR (o.map (fun s => divS s (half n))) r := by
  rcases hx with ⟨rfl, hf⟩ | ⟨rfl, hf⟩
  · exact ⟨_, 0, run_float_arith (P := Try.prog) u .quo 40 .f32 x _ _ (div_half x n hf h), .inl ⟨rfl, half_fin x n hf h⟩⟩
  · rcases div_bad x (half n) hf (half_any h).1 (half_any h).2 with ⟨r, e, hr⟩ | e
    · exact ⟨_, 0, run_float_arith (P := Try.prog) u .quo 40 .f32 x _ r e, .inr ⟨rfl, hr⟩⟩
    · exact ⟨_, 1, run_div_none x _ e u, .inr ⟨rfl, nan_fin _⟩⟩

end Go.Proofs.Ytclflnpbiiimiaa

namespace Go.Proofs.Ytclflnpbiiimiaa
open Go Go.RowKit Go.Shelf Ieee

set_option maxRecDepth 100000 in
theorem plC_any (j k B : Nat) (hj : j < 64) (hk : k < 64) (w : World) (hc : w.cell? ⟨B, 0, none⟩ = some (.int .i64 (k : Int))) :
    Calls Try.prog 44 #[.int .i64 (j : Int), .pointer (some ⟨B, 0, none⟩)] w fun e w' => e = .returned (.int .i64 ((j : Int) + k)) ∧ w = w' := by
  have hw : IntKind.i64.wrap ((j : Int) + k) = (j : Int) + k := IntWalk.i64_in _ (by omega)
  go_enter Try.func44, Try.ntmps44
  go_wp2
  go_ret
  exact ⟨rfl, rfl⟩
theorem plC_enters : ∀ (args : Array Value) w, (callFunc 44 args).run Try.prog w = .ok (.enter 44 args) w := enters_of Try.func44 (by kernel_rfl) rfl

/-- the sum at k -/
def atC (A M : List Nat) (n k : Nat) : Option Nat := accTo (fun j => mulF (A.getD j 0) (M.getD (((j : Int) + k) % n).toNat 0)) n

set_option maxRecDepth 100000 in
set_option maxHeartbeats 1600000 in
theorem telC_any (n k : Nat) (hn : 0 < n) (hn2 : n ≤ 64) (hk : k < n) (A M : List Nat) (adA adM : Option Addr) (capA capM ba bm : Nat) (w : World) (hA : CameF adA n A w) (hM : CameF adM n M w) (hAf : A.all fin = true) (hMf : M.all fin = true)
    (ha : w.cell? ⟨ba, 0, none⟩ = some (.slice adA n capA)) (hm : w.cell? ⟨bm, 0, none⟩ = some (.slice adM n capM)) :
    Calls Try.prog 43 #[.int .i64 (k : Int), .pointer (some ⟨ba, 0, none⟩), .pointer (some ⟨bm, 0, none⟩)] w fun e w' =>
      (∃ v, e = .returned (.float .f32 v) ∧ SR (atC A M n k) v) ∧ Below w.heap.size w w' := by
  have B1 : Below w.heap.size w (w.alloc (.cells #[.int .i64 (k : Int)] 2)) := (Below.refl _ w).alloc (Nat.le_refl _) _
  have bK := (Boxed.new w 2 (.int .i64 (k : Int))).cell
  have ka := (B1.cell (p := ⟨ba, 0, none⟩) (World.block_lt_of_cell? w _ ha)).trans ha
  have km := (B1.cell (p := ⟨bm, 0, none⟩) (World.block_lt_of_cell? w _ hm)).trans hm
  have hA1 := hA.below B1 (Nat.le_refl _)
  have hM1 := hM.below B1 (Nat.le_refl _)
  have hsz : (w.alloc (.cells #[.int .i64 (k : Int)] 2)).heap.size = w.heap.size + 1 := by simp
  have HRE : Hid (∀ u, Below (w.heap.size + 1) (w.alloc (.cells #[.int .i64 (k : Int)] 2)) u → Calls Try.prog 35 #[.slice adM n capM, .func (.func 44) #[] #[.pointer (some ⟨w.heap.size, 0, none⟩)]] u fun e w' =>
      (∃ lb', e = .returned (.func (.func 63) #[] lb') ∧ Seq 63 lb' n (fun j v => v = M.getD (((j : Int) + k) % n).toNat 0) w'.heap.size w') ∧ Below u.heap.size u w') := Lib.hid (fun u hu =>
    rearr_any n hn hn2 adM capM M 44 #[.pointer (some ⟨w.heap.size, 0, none⟩)] (fun j v => plC_enters _ v) (fun (j : Nat) => (j : Int) + k) u (hM1.below hu (by rw [hsz]; exact Nat.le_refl _)) (fun j hj W hW =>
      plC_any j k w.heap.size (by omega) (by omega) W ((hW.cell (p := ⟨w.heap.size, 0, none⟩) (by have := hu.size; rw [hsz] at this; exact this)).trans ((hu.cell (p := ⟨w.heap.size, 0, none⟩) (by simp)).trans bK))))
  have HSU : Hid (∀ u lb, Below (w.heap.size + 1) (w.alloc (.cells #[.int .i64 (k : Int)] 2)) u → Seq 63 lb n (fun j v => v = M.getD (((j : Int) + k) % n).toNat 0) u.heap.size u →
      Calls Try.prog 34 #[.slice adA n capA, .func (.func 63) #[] lb] u fun e w' => (∃ r, e = .returned (.float .f32 r) ∧ SR (atC A M n k) r) ∧ Below u.heap.size u w') := Lib.hid (fun u lb hu hS =>
    sumOf_any n hn2 (fun j => M.getD (((j : Int) + k) % n).toNat 0) (fun j hj => all_at hMf _ (by
      have h1 := Int.emod_nonneg ((j : Int) + k) (show (n : Int) ≠ 0 by omega)
      have h2 := Int.emod_lt_of_pos ((j : Int) + k) (show (0 : Int) < n by omega)
      rw [hM.1]
      omega)) lb adA capA A u hAf (hA1.below hu (by rw [hsz]; exact Nat.le_refl _)) hS)
  have HB1 := Lib.hid B1
  have HWZ := Lib.hid hsz.symm
  have HKA := Lib.hid (World.block_lt_of_cell? _ _ ka)
  have HKM := Lib.hid (World.block_lt_of_cell? _ _ km)
  generalize atC A M n k = T at *
  clear hA hM hA1 hM1 hAf hMf ha hm bK B1 hsz
  have hmf : ∀ (fn : Fn) (first cap : Array Value) (w : World), (Instr.makeFunc fn first cap).run Try.prog w = .ok (.func fn first cap) w := fun _ _ _ _ => rfl
  go_enter Try.func43, Try.ntmps43
  go_wp2_with fail
  generalize w.alloc (.cells #[.int .i64 (k : Int)] 2) = w1 at *
  have BU := Lib.hid (Below.refl (w.heap.size + 1) w1).drew
  have BS := Lib.hid (Below.refl w1.heap.size w1).drew
  have hwz := HWZ.out
  go_region_held3 (fun u => u.cell? ⟨ba, 0, none⟩ = some (.slice adA n capA) ∧ u.cell? ⟨bm, 0, none⟩ = some (.slice adM n capM)) (go_keep)
    (first
      | (go_at_call 35; refine (HRE.out _ BU.out).mono ?_; rintro e w2 ⟨⟨lb', rfl, hS⟩, hb2⟩; have HS := Lib.hid hS; have B2 := Lib.hid (BU.out.trans (hb2.mono (by rw [hwz]; exact BS.out.size))); have B3 := Lib.hid (BS.out.trans (hb2.mono BS.out.size)); have k1 := (B3.out.cell (p := ⟨ba, 0, none⟩) HKA.out).trans ka; have k2 := (B3.out.cell (p := ⟨bm, 0, none⟩) HKM.out).trans km; clear hS hb2)
      | (go_at_call 34; refine (HSU.out _ _ B2.out HS.out).mono ?_; rintro e w3 ⟨⟨r, rfl, hr⟩, hb3⟩; have HR := Lib.hid hr; have B4 := Lib.hid (HB1.out.trans ((B3.out.trans (hb3.mono B3.out.size)).mono (by rw [← hwz]; omega))); have k3 := (B3.out.trans (hb3.mono B3.out.size)).cell (p := ⟨ba, 0, none⟩) HKA.out; have k4 := (B3.out.trans (hb3.mono B3.out.size)).cell (p := ⟨bm, 0, none⟩) HKM.out; rw [ka] at k3; rw [km] at k4; clear hr hb3))
  go_wp2_with fail
  go_ret
  exact ⟨⟨r, rfl, HR.out⟩, B4.out⟩

end Go.Proofs.Ytclflnpbiiimiaa
