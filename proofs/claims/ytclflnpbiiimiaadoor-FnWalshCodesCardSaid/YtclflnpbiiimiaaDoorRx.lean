/- The program's code of Walsh: the iterator, the function. Condition: none. -/
import Derived.Test.YtclflnpbiiimiaaDoorM20
namespace Go.Proofs.YtclflnpbiiimiaaDoor
open Go Go.RowKit Go.Shelf Ieee

theorem signIf_any (b : Bool) (w : World) : Calls Tryd.prog 67 #[.bool b] w fun e w' => e = .returned (.float .f32 (sg (!b))) ∧ w = w' := by
  cases b
  · go_enter Tryd.func67, Tryd.ntmps67
    go_wp2
    go_ret
    exact ⟨rfl, rfl⟩
  · go_enter Tryd.func67, Tryd.ntmps67
    go_wp2
    go_ret
    exact ⟨rfl, rfl⟩

set_option maxRecDepth 100000 in
set_option maxHeartbeats 800000 in
theorem walshAt_any (k j B : Nat) (hk : k < 64) (hj : j < 64) (w : World) (hc : w.cell? ⟨B, 0, none⟩ = some (.int .i64 (k : Int))) :
    Calls Tryd.prog 66 #[.int .i64 (j : Int), .pointer (some ⟨B, 0, none⟩)] w fun e w' => e = .returned (.float .f32 (wal k j)) ∧ w = w' := by
  have ha := (and_any j k hj hk).1
  have hq := (and_any j k hj hk).2
  have hw : IntKind.u64.wrap ((j &&& k : Nat) : Int) = ((j &&& k : Nat) : Int) := by
    generalize j &&& k = q at hq ⊢
    exact IntWalk.u64_in _ (by omega)
  have HE : Hid (wal k j = sg (!(pop (j &&& k) % 2 == 0))) := Lib.hid (by rw [pop_par _ hq, Bool.not_not, Nat.and_comm]; rfl)
  have HO := Lib.hid (ones_any (j &&& k) hq)
  generalize j &&& k = q at *
  have hp : pop q ≤ 6 := by unfold pop; omega
  generalize wal k j = r at *
  generalize pop q = c at *
  obtain ⟨d, hd⟩ : ∃ d, d = c % 2 := ⟨_, rfl⟩
  have hm0 : d < 2 := by omega
  have hm1 : (c : Int).tmod 2 = (d : Int) := by rw [Int.tmod_eq_emod_of_nonneg (by omega), hd]; rfl
  have hm2 : (c : Int) % 2 = (d : Int) := by rw [hd]; rfl
  have HS := Lib.hid (signIf_any ((d : Int) == 0))
  have HD : Hid (sg (!((d : Int) == 0)) = r) := Lib.hid (by
    rw [HE.out, ← hd]
    congr 2
    by_cases h : d = 0
    · rw [h]; rfl
    · rw [show (d == 0) = false by simp [h]]
      simp; omega)
  clear hd
  go_enter Tryd.func66, Tryd.ntmps66
  go_wp2_with fail
  refine (HO.out _).mono ?_
  rintro e w1 ⟨rfl, rfl⟩
  go_wp2_with fail
  refine (HS.out _).mono ?_
  rintro e w1 ⟨rfl, rfl⟩
  rw [HD.out]
  go_wp2_with fail
  go_ret
  exact ⟨rfl, rfl⟩

theorem walsh_enters : ∀ (args : Array Value) w, (callFunc 66 args).run Tryd.prog w = .ok (.enter 66 args) w := enters_of Tryd.func66 (by kernel_rfl) rfl

set_option maxRecDepth 100000 in
set_option maxHeartbeats 800000 in
theorem walsh_any (n k : Nat) (hn : n ≤ 64) (hk : k < 64) : Makes 38 #[.int .i64 (n : Int), .int .i64 (k : Int)] n (fun j v => v = wal k j) := by
  intro w
  have B1 : Below w.heap.size w (w.alloc (.cells #[.int .i64 (k : Int)] 2)) := (Below.refl _ w).alloc (Nat.le_refl _) _
  have bK := (Boxed.new w 2 (.int .i64 (k : Int))).cell
  have HI := Lib.hid (inOrder_any n hn (fun j v => v = wal k j) 66 #[.pointer (some ⟨w.heap.size, 0, none⟩)] (fun j v => walsh_enters _ v) (w.alloc (.cells #[.int .i64 (k : Int)] 2)) (fun j hj W hW => by
    refine (walshAt_any k j w.heap.size hk (by omega) W ((hW.cell (p := ⟨w.heap.size, 0, none⟩) (by simp)).trans bK)).mono ?_
    rintro e W' ⟨rfl, rfl⟩
    exact ⟨⟨_, rfl, rfl⟩, Below.refl _ _⟩))
  have HB := Lib.hid B1
  clear bK B1
  have hmf : ∀ (fn : Fn) (first cap : Array Value) (w : World), (Instr.makeFunc fn first cap).run Tryd.prog w = .ok (.func fn first cap) w := fun _ _ _ _ => rfl
  go_enter Tryd.func38, Tryd.ntmps38
  go_wp2_with fail
  refine HI.out.mono ?_
  rintro e w1 ⟨⟨lb, rfl, hS⟩, hb⟩
  have HS := Lib.hid hS
  have HB2 := Lib.hid (HB.out.trans (hb.mono (by simp)))
  clear hS hb
  go_wp2_with fail
  go_ret
  exact ⟨⟨lb, rfl, HS.out⟩, HB2.out⟩

end Go.Proofs.YtclflnpbiiimiaaDoor
