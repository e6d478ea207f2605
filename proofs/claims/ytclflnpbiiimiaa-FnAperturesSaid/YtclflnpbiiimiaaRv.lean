/- What the closure of the program's decoded lists tells. Condition: at most 64 places, numbers that are finite. -/
import Derived.Test.YtclflnpbiiimiaaRr
import Derived.Test.YtclflnpbiiimiaaRh
import Derived.Test.YtclflnpbiiimiaaM30
import Derived.Deep.RegionHeld3
import Derived.Deep.RegionLaw
namespace Go.Proofs.Ytclflnpbiiimiaa
open Go Go.RowKit Go.Shelf Ieee

set_option maxRecDepth 100000 in
theorem plD_any (j k B : Nat) (hj : j < 64) (hk : k < 64) (w : World) (hc : w.cell? ⟨B, 0, none⟩ = some (.int .i64 (k : Int))) :
    Calls Try.prog 40 #[.int .i64 (j : Int), .pointer (some ⟨B, 0, none⟩)] w fun e w' => e = .returned (.int .i64 ((j : Int) - k)) ∧ w = w' := by
  have hw : IntKind.i64.wrap ((j : Int) - k) = (j : Int) - k := IntWalk.i64_in _ (by omega)
  go_enter Try.func40, Try.ntmps40
  go_wp2
  go_ret
  exact ⟨rfl, rfl⟩
theorem plD_enters : ∀ (args : Array Value) w, (callFunc 40 args).run Try.prog w = .ok (.enter 40 args) w := enters_of Try.func40 (by kernel_rfl) rfl

/-- the sum at k -/
def atD (A M : List Nat) (n k : Nat) : Option Nat := accTo (fun j => mulF (A.getD j 0) (M.getD (((j : Int) - k) % n).toNat 0)) n

set_option maxRecDepth 100000 in
set_option maxHeartbeats 1600000 in
theorem telD_any (n k : Nat) (hn : 0 < n) (hn2 : n ≤ 64) (hk : k < n) (A M : List Nat) (adA adM : Option Addr) (capA capM ba bm : Nat) (w : World) (hA : CameF adA n A w) (hM : CameF adM n M w) (hAf : A.all fin = true) (hMf : M.all fin = true) (bo : Nat) (hpr : prI (n : Int) = true) (ho : w.cell? ⟨bo, 0, none⟩ = some (.float .f32 (half n)))
    (ha : w.cell? ⟨ba, 0, none⟩ = some (.slice adA n capA)) (hm : w.cell? ⟨bm, 0, none⟩ = some (.slice adM n capM)) :
    Calls Try.prog 39 #[.int .i64 (k : Int), .pointer (some ⟨ba, 0, none⟩), .pointer (some ⟨bm, 0, none⟩), .pointer (some ⟨bo, 0, none⟩)] w fun e w' =>
      (∃ v, e = .returned (.float .f32 v) ∧ SR ((atD A M n k).map (fun s => divS s (half n))) v) ∧ Below w.heap.size w w' := by
  have B1 : Below w.heap.size w (w.alloc (.cells #[.int .i64 (k : Int)] 2)) := (Below.refl _ w).alloc (Nat.le_refl _) _
  have bK := (Boxed.new w 2 (.int .i64 (k : Int))).cell
  have ka := (B1.cell (p := ⟨ba, 0, none⟩) (World.block_lt_of_cell? w _ ha)).trans ha
  have km := (B1.cell (p := ⟨bm, 0, none⟩) (World.block_lt_of_cell? w _ hm)).trans hm
  have ko := (B1.cell (p := ⟨bo, 0, none⟩) (World.block_lt_of_cell? w _ ho)).trans ho
  have hA1 := hA.below B1 (Nat.le_refl _)
  have hM1 := hM.below B1 (Nat.le_refl _)
  have hsz : (w.alloc (.cells #[.int .i64 (k : Int)] 2)).heap.size = w.heap.size + 1 := by simp
  have HRE : Hid (∀ u, Below (w.heap.size + 1) (w.alloc (.cells #[.int .i64 (k : Int)] 2)) u → Calls Try.prog 35 #[.slice adM n capM, .func (.func 40) #[] #[.pointer (some ⟨w.heap.size, 0, none⟩)]] u fun e w' =>
      (∃ lb', e = .returned (.func (.func 63) #[] lb') ∧ Seq 63 lb' n (fun j v => v = M.getD (((j : Int) - k) % n).toNat 0) w'.heap.size w') ∧ Below u.heap.size u w') := Lib.hid (fun u hu =>
    rearr_any n hn hn2 adM capM M 40 #[.pointer (some ⟨w.heap.size, 0, none⟩)] (fun j v => plD_enters _ v) (fun (j : Nat) => (j : Int) - k) u (hM1.below hu (by rw [hsz]; exact Nat.le_refl _)) (fun j hj W hW =>
      plD_any j k w.heap.size (by omega) (by omega) W ((hW.cell (p := ⟨w.heap.size, 0, none⟩) (by have := hu.size; rw [hsz] at this; exact this)).trans ((hu.cell (p := ⟨w.heap.size, 0, none⟩) (by simp)).trans bK))))
  have HSU : Hid (∀ u lb, Below (w.heap.size + 1) (w.alloc (.cells #[.int .i64 (k : Int)] 2)) u → Seq 63 lb n (fun j v => v = M.getD (((j : Int) - k) % n).toNat 0) u.heap.size u →
      Calls Try.prog 34 #[.slice adA n capA, .func (.func 63) #[] lb] u fun e w' => (∃ r, e = .returned (.float .f32 r) ∧ SR (atD A M n k) r) ∧ Below u.heap.size u w') := Lib.hid (fun u lb hu hS =>
    sumOf_any n hn2 (fun j => M.getD (((j : Int) - k) % n).toNat 0) (fun j hj => all_at hMf _ (by
      have h1 := Int.emod_nonneg ((j : Int) - k) (show (n : Int) ≠ 0 by omega)
      have h2 := Int.emod_lt_of_pos ((j : Int) - k) (show (0 : Int) < n by omega)
      rw [hM.1]
      omega)) lb adA capA A u hAf (hA1.below hu (by rw [hsz]; exact Nat.le_refl _)) hS)
  have HB1 := Lib.hid B1
  have HWZ := Lib.hid hsz.symm
  have HKA := Lib.hid (World.block_lt_of_cell? _ _ ka)
  have HKO := Lib.hid (World.block_lt_of_cell? _ _ ko)
  have HHF := Lib.hid (fun o x hx u => half_at o x n hx hpr u)
  have HKM := Lib.hid (World.block_lt_of_cell? _ _ km)
  generalize atD A M n k = T at *
  generalize half n = h2 at *
  clear hA hM hA1 hM1 hAf hMf ha hm ho hpr bK B1 hsz
  have hmf : ∀ (fn : Fn) (first cap : Array Value) (w : World), (Instr.makeFunc fn first cap).run Try.prog w = .ok (.func fn first cap) w := fun _ _ _ _ => rfl
  go_enter Try.func39, Try.ntmps39
  go_wp2_with fail
  generalize w.alloc (.cells #[.int .i64 (k : Int)] 2) = w1 at *
  have BS := Lib.hid (Below.refl w1.heap.size w1).drew
  have hwz := HWZ.out
  refine wp_region_noPanic ?_
  refine wp_region_held_drew (S := Below w1.heap.size w1) (by kernel_rfl) BS.out (fun hHeld => ?_)
  refine wpAnyH_take (i := 0) (v := .slice adA n capA) rfl (by kernel_rfl) (by kernel_rfl) (by kernel_rfl) (fun _ _ _ h => h) (Or.inl ⟨by rfl, fun w' hSw => by have c0 := (hSw.cell (p := ⟨ba, 0, none⟩) HKA.out).trans ka; have c1 := (hSw.cell (p := ⟨bm, 0, none⟩) HKM.out).trans km; have c2 := (hSw.cell (p := ⟨bo, 0, none⟩) HKO.out).trans ko; go_simp⟩) hHeld ?_
  simp only [Act.put]
  refine wpAnyH_take (i := 1) (v := .slice adM n capM) rfl (by kernel_rfl) (by kernel_rfl) (by kernel_rfl) (fun _ _ _ h => h) (Or.inl ⟨by rfl, fun w' hSw => by have c0 := (hSw.cell (p := ⟨ba, 0, none⟩) HKA.out).trans ka; have c1 := (hSw.cell (p := ⟨bm, 0, none⟩) HKM.out).trans km; have c2 := (hSw.cell (p := ⟨bo, 0, none⟩) HKO.out).trans ko; go_simp⟩) hHeld ?_
  simp only [Act.put]
  refine wpAnyH_take (i := 2) (v := .func (.func 40) #[] #[.pointer (some ⟨w.heap.size, 0, none⟩)]) rfl (by kernel_rfl) (by kernel_rfl) (by kernel_rfl) (fun _ _ _ h => h) (Or.inl ⟨by rfl, fun w' hSw => by go_simp⟩) hHeld ?_
  simp only [Act.put]
  refine wpAnyH_take (i := 5) (v := .float .f32 h2) rfl (by kernel_rfl) (by kernel_rfl) (by kernel_rfl) (fun _ _ _ h => h) (Or.inl ⟨by rfl, fun w' hSw => by have c0 := (hSw.cell (p := ⟨ba, 0, none⟩) HKA.out).trans ka; have c1 := (hSw.cell (p := ⟨bm, 0, none⟩) HKM.out).trans km; have c2 := (hSw.cell (p := ⟨bo, 0, none⟩) HKO.out).trans ko; go_simp⟩) hHeld ?_
  simp only [Act.put]
  refine wpAnyH_ready (rs := [3]) (by kernel_rfl) (by simp) ?_
  refine AllReadyH.cons (o := _) rfl (fun K hK => ?_) AllReadyH.nil
  rw [if_pos (by rfl)]
  go_simp
  refine (HRE.out _ (by rw [hwz]; exact hHeld)).mono ?_
  rintro e w2 ⟨⟨lb', rfl, hS⟩, hb2⟩
  refine hK.out _ _ (hHeld.trans (hb2.mono hHeld.size)) (fun hHeld2 => ?_)
  clear hK K
  refine wpAnyH_ready (rs := [4]) (by kernel_rfl) (by simp) ?_
  refine AllReadyH.cons (o := _) rfl (fun K hK => ?_) AllReadyH.nil
  rw [if_pos (by rfl)]
  go_simp
  refine (HSU.out _ _ (by rw [hwz]; exact hHeld2) hS).mono ?_
  rintro e w3 ⟨⟨r, rfl, hr⟩, hb3⟩
  refine hK.out _ _ (hHeld2.trans (hb3.mono hHeld2.size)) (fun hHeld3 => ?_)
  clear hK K
  obtain ⟨z, dd, hz, hzz⟩ := HHF.out _ r hr w3
  refine wpAnyH_ready (rs := [6]) (by kernel_rfl) (by simp) ?_
  refine AllReadyH.cons (o := _) rfl (fun K hK => ?_) AllReadyH.nil
  rw [if_pos (by rfl)]
  go_simp
  refine hK.out _ _ (below_drewN hHeld3 dd) (fun hHeld4 => ?_)
  clear hK K
  refine wpAnyH_take (i := 7) (v := .float .f32 z) rfl (by kernel_rfl) (by kernel_rfl) (by kernel_rfl) (fun _ _ _ h => h) (Or.inl ⟨by rfl, fun w' hSw => by go_simp⟩) hHeld4 ?_
  refine (show wpAnyH _ _ _ _ _ _ _ (Act.put _ (some 5) _) _ from ?_)
  simp only [Act.put]
  refine wpAnyH_done (by kernel_rfl) (NoPanic.normal ?_) _
  go_wp2
  go_ret
  exact ⟨⟨z, rfl, hzz⟩, HB1.out.trans (hHeld4.mono (by rw [← hwz]; omega))⟩

end Go.Proofs.Ytclflnpbiiimiaa
