/- Lists of sums with an early end, out of what a list of told numbers holds; two lists side by side. Condition: none. What the closure of the program's shadows tells. Condition: at most 64 places, numbers that are finite. -/
import Derived.Test.YtclflnpbiiimiaaM21
import Derived.Test.YtclflnpbiiimiaaRh
import Derived.Test.YtclflnpbiiimiaaRr
import Derived.Deep.RegionHeld3
namespace Go.Proofs.Ytclflnpbiiimiaa
open Go Go.RowKit

theorem rows_some {n : Nat} {F : Nat → Option Nat} {L : List Nat} (hl : L.length = n) (h : ∀ k, k < n → SR (F k) (L.getD k 0)) (hf : L.all fin = true) : rowsTo F n = some L := by
  have : ∀ k, k ≤ n → rowsTo F k = some (L.take k) := by
    intro k
    induction k with
    | zero => intro _; simp [rowsTo]
    | succ k ih =>
      intro hk
      rw [take_succ_getDF L k (by omega)]
      refine rows_step (ih (by omega)) ?_
      rcases h k (by omega) with ⟨h1, _⟩ | ⟨_, h2⟩
      · exact h1
      · rw [all_at hf k (by omega)] at h2; cases h2
  have := this n (Nat.le_refl _)
  rwa [← hl, List.take_length, hl] at this
theorem rows_nil {n : Nat} {F : Nat → Option Nat} {L : List Nat} (hl : L.length = n) (h : ∀ k, k < n → SR (F k) (L.getD k 0)) (hf : L.all fin = false) : rowsTo F n = none := by
  obtain ⟨k, hk, hb⟩ : ∃ k, k < n ∧ fin (L.getD k 0) = false := by
    rw [List.all_eq_false] at hf
    obtain ⟨x, hx, hb⟩ := hf
    obtain ⟨q, hq, rfl⟩ := List.getElem_of_mem hx
    refine ⟨q, by omega, ?_⟩
    rw [List.getD_eq_getElem?_getD, List.getElem?_eq_getElem hq]
    simpa using hb
  rcases h k hk with ⟨_, h2⟩ | ⟨h1, _⟩
  · rw [hb] at h2; cases h2
  · exact rows_end h1 hk

/-- what a list of told sums answers is what is asked -/
theorem told_ans {n : Nat} {F : Nat → Option Nat} {B : Nat} {L : List Nat} {e : Ending} {w' : World} (hl : L.length = n) (h : ∀ k, k < n → SR (F k) (L.getD k 0))
    (he : (L.all fin = true ∧ ∃ v, e = .returned (.tuple #[v, .int .i64 0]) ∧ OwnF B v L w') ∨ (L.all fin = false ∧ e = .returned (.tuple #[.slice none 0 0, .int .i64 3]))) :
    ∃ v, e = .returned (.tuple #[v, .int .i64 (ansC (rowsTo F n))]) ∧ OwnF B v (ansL (rowsTo F n)) w' := by
  rcases he with ⟨h1, v, rfl, hO⟩ | ⟨h1, rfl⟩
  · rw [rows_some hl h h1]
    exact ⟨v, rfl, hO⟩
  · rw [rows_nil hl h h1]
    exact ⟨_, rfl, OwnF.zero _ _⟩

theorem rows_two {u : World} {g cA cB : Nat} {a b : Option Addr} {A B : List Nat} {T : TypeId} (hg : u.heap[g]? = some (.cells #[.slice a A.length cA, .slice b B.length cB] T (0, 0))) (hA : CameF a A.length A u) (hB : CameF b B.length B u)
    (lA : A.length ≤ 1048576) (lB : B.length ≤ 1048576) : Rows g 2 [A, B] u := by
  refine ⟨rfl, fun i hi => ?_⟩
  match i, hi with
  | 0, _ => exact ⟨a, cA, by rw [cell_of_row _ _ _ _ _ _ hg]; rfl, hA, lA⟩
  | 1, _ => exact ⟨b, cB, by rw [cell_of_row _ _ _ _ _ _ hg]; rfl, hB, lB⟩
theorem rows_one {u : World} {g cA : Nat} {a : Option Addr} {A : List Nat} {T : TypeId} (hg : u.heap[g]? = some (.cells #[.slice a A.length cA] T (0, 0))) (hA : CameF a A.length A u) (lA : A.length ≤ 1048576) : Rows g 1 [A] u := by
  refine ⟨rfl, fun i hi => ?_⟩
  match i, hi with
  | 0, _ => exact ⟨a, cA, by rw [cell_of_row _ _ _ _ _ _ hg]; rfl, hA, lA⟩

end Go.Proofs.Ytclflnpbiiimiaa

namespace Go.Proofs.Ytclflnpbiiimiaa
open Go Go.RowKit Go.Shelf Ieee

set_option maxRecDepth 100000 in
theorem plS_any (j k B : Nat) (hj : j < 64) (hk : k < 64) (w : World) (hc : w.cell? ⟨B, 0, none⟩ = some (.int .i64 (k : Int))) :
    Calls Try.prog 36 #[.int .i64 (j : Int), .pointer (some ⟨B, 0, none⟩)] w fun e w' => e = .returned (.int .i64 ((k : Int) - j)) ∧ w = w' := by
  have hw : IntKind.i64.wrap ((k : Int) - j) = (k : Int) - j := IntWalk.i64_in _ (by omega)
  go_enter Try.func36, Try.ntmps36
  go_wp2
  go_ret
  exact ⟨rfl, rfl⟩
theorem plS_enters : ∀ (args : Array Value) w, (callFunc 36 args).run Try.prog w = .ok (.enter 36 args) w := enters_of Try.func36 (by kernel_rfl) rfl

/-- the sum at k -/
def atS (A M : List Nat) (n k : Nat) : Option Nat := accTo (fun j => mulF (A.getD j 0) (M.getD (((k : Int) - j) % n).toNat 0)) n

set_option maxRecDepth 100000 in
set_option maxHeartbeats 1600000 in
theorem telS_any (n k : Nat) (hn : 0 < n) (hn2 : n ≤ 64) (hk : k < n) (A M : List Nat) (adA adM : Option Addr) (capA capM ba bm : Nat) (w : World) (hA : CameF adA n A w) (hM : CameF adM n M w) (hAf : A.all fin = true) (hMf : M.all fin = true)
    (ha : w.cell? ⟨ba, 0, none⟩ = some (.slice adA n capA)) (hm : w.cell? ⟨bm, 0, none⟩ = some (.slice adM n capM)) :
    Calls Try.prog 33 #[.int .i64 (k : Int), .pointer (some ⟨ba, 0, none⟩), .pointer (some ⟨bm, 0, none⟩)] w fun e w' =>
      (∃ v, e = .returned (.float .f32 v) ∧ SR (atS A M n k) v) ∧ Below w.heap.size w w' := by
  have B1 : Below w.heap.size w (w.alloc (.cells #[.int .i64 (k : Int)] 2)) := (Below.refl _ w).alloc (Nat.le_refl _) _
  have bK := (Boxed.new w 2 (.int .i64 (k : Int))).cell
  have ka := (B1.cell (p := ⟨ba, 0, none⟩) (World.block_lt_of_cell? w _ ha)).trans ha
  have km := (B1.cell (p := ⟨bm, 0, none⟩) (World.block_lt_of_cell? w _ hm)).trans hm
  have hA1 := hA.below B1 (Nat.le_refl _)
  have hM1 := hM.below B1 (Nat.le_refl _)
  have hsz : (w.alloc (.cells #[.int .i64 (k : Int)] 2)).heap.size = w.heap.size + 1 := by simp
  have HRE : Hid (∀ u, Below (w.heap.size + 1) (w.alloc (.cells #[.int .i64 (k : Int)] 2)) u → Calls Try.prog 35 #[.slice adM n capM, .func (.func 36) #[] #[.pointer (some ⟨w.heap.size, 0, none⟩)]] u fun e w' =>
      (∃ lb', e = .returned (.func (.func 63) #[] lb') ∧ Seq 63 lb' n (fun j v => v = M.getD (((k : Int) - j) % n).toNat 0) w'.heap.size w') ∧ Below u.heap.size u w') := Lib.hid (fun u hu =>
    rearr_any n hn hn2 adM capM M 36 #[.pointer (some ⟨w.heap.size, 0, none⟩)] (fun j v => plS_enters _ v) (fun (j : Nat) => (k : Int) - j) u (hM1.below hu (by rw [hsz]; exact Nat.le_refl _)) (fun j hj W hW =>
      plS_any j k w.heap.size (by omega) (by omega) W ((hW.cell (p := ⟨w.heap.size, 0, none⟩) (by have := hu.size; rw [hsz] at this; exact this)).trans ((hu.cell (p := ⟨w.heap.size, 0, none⟩) (by simp)).trans bK))))
  have HSU : Hid (∀ u lb, Below (w.heap.size + 1) (w.alloc (.cells #[.int .i64 (k : Int)] 2)) u → Seq 63 lb n (fun j v => v = M.getD (((k : Int) - j) % n).toNat 0) u.heap.size u →
      Calls Try.prog 34 #[.slice adA n capA, .func (.func 63) #[] lb] u fun e w' => (∃ r, e = .returned (.float .f32 r) ∧ SR (atS A M n k) r) ∧ Below u.heap.size u w') := Lib.hid (fun u lb hu hS =>
    sumOf_any n hn2 (fun j => M.getD (((k : Int) - j) % n).toNat 0) (fun j hj => all_at hMf _ (by
      have h1 := Int.emod_nonneg ((k : Int) - j) (show (n : Int) ≠ 0 by omega)
      have h2 := Int.emod_lt_of_pos ((k : Int) - j) (show (0 : Int) < n by omega)
      rw [hM.1]
      omega)) lb adA capA A u hAf (hA1.below hu (by rw [hsz]; exact Nat.le_refl _)) hS)
  have HB1 := Lib.hid B1
  have HWZ := Lib.hid hsz.symm
  have HKA := Lib.hid (World.block_lt_of_cell? _ _ ka)
  have HKM := Lib.hid (World.block_lt_of_cell? _ _ km)
  generalize atS A M n k = T at *
  clear hA hM hA1 hM1 hAf hMf ha hm bK B1 hsz
  have hmf : ∀ (fn : Fn) (first cap : Array Value) (w : World), (Instr.makeFunc fn first cap).run Try.prog w = .ok (.func fn first cap) w := fun _ _ _ _ => rfl
  go_enter Try.func33, Try.ntmps33
  go_wp2_with fail
  generalize w.alloc (.cells #[.int .i64 (k : Int)] 2) = w1 at *
  have BU := Lib.hid (Below.refl (w.heap.size + 1) w1).drew
  have BS := Lib.hid (Below.refl w1.heap.size w1).drew
  have hwz := HWZ.out
  go_region_held3 (fun u => u.cell? ⟨ba, 0, none⟩ = some (.slice adA n capA) ∧ u.cell? ⟨bm, 0, none⟩ = some (.slice adM n capM)) (go_keep)
    (first
      | (go_at_call 35; refine (HRE.out _ BU.out).mono ?_; rintro e w2 ⟨⟨lb', rfl, hS⟩, hb2⟩; have HS := Lib.hid hS; have B2 := Lib.hid (BU.out.trans (hb2.mono (by rw [hwz]; exact BS.out.size))); have B3 := Lib.hid (BS.out.trans (hb2.mono BS.out.size)); have k1 := (B3.out.cell (p := ⟨ba, 0, none⟩) HKA.out).trans ka; have k2 := (B3.out.cell (p := ⟨bm, 0, none⟩) HKM.out).trans km; clear hS hb2)
      | (go_at_call 34; refine (HSU.out _ _ B2.out HS.out).mono ?_; rintro e w3 ⟨⟨r, rfl, hr⟩, hb3⟩; have HR := Lib.hid hr; have B4 := Lib.hid (HB1.out.trans ((B3.out.trans (hb3.mono B3.out.size)).mono (by rw [← hwz]; omega))); have k3 := (B3.out.trans (hb3.mono B3.out.size)).cell (p := ⟨ba, 0, none⟩) HKA.out; have k4 := (B3.out.trans (hb3.mono B3.out.size)).cell (p := ⟨bm, 0, none⟩) HKM.out; rw [ka] at k3; rw [km] at k4; clear hr hb3))
  go_wp2_with fail
  go_ret
  exact ⟨⟨r, rfl, HR.out⟩, B4.out⟩

end Go.Proofs.Ytclflnpbiiimiaa
