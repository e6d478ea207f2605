/- UnwrapRows: what the program answers. Condition: a list that a law lets in. UnwrapRows: program and model answer one list and one code. Condition: none. -/
import Derived.Test.YtjmfffgddmnkmacUg
import Derived.Test.YtjmfffgddmnkmacUs
namespace Go.Proofs.Ytjmfffgddmnkmac
open Go Go.RowKit

/-- the heights found so far, then zeros -/
def padU (m : Nat) (L : List Int) (N k : Nat) : List Int := unw m L k ++ List.replicate (N - k) 0
theorem padU_len (m : Nat) (L : List Int) (N k : Nat) (hk : k ≤ N) : (padU m L N k).length = N := by
  unfold padU; rw [List.length_append, unw_len, List.length_replicate]; omega
theorem padU_get (m : Nat) (L : List Int) (N k i : Nat) (hi : i < k) : (padU m L N k).getD i 0 = (unw m L k).getD i 0 := by
  unfold padU
  rw [List.getD_eq_getElem?_getD, List.getD_eq_getElem?_getD, List.getElem?_append_left (by rw [unw_len]; exact hi)]
theorem padU_set (m : Nat) (L : List Int) (N k : Nat) (hk : k < N) : (padU m L N k).set k (unwStep m L (unw m L k) k) = padU m L N (k + 1) := by
  unfold padU
  obtain ⟨d, hd⟩ : ∃ d, N - k = d + 1 := ⟨N - k - 1, by omega⟩
  have hd2 : N - (k + 1) = d := by omega
  rw [hd, hd2, List.replicate_succ, List.set_append_right _ _ (by rw [unw_len]; exact Nat.le_refl _), unw_len, Nat.sub_self, List.set_cons_zero]
  show _ = (unw m L k ++ [unwStep m L (unw m L k) k]) ++ _
  simp
theorem padU_all (m : Nat) (L : List Int) (N : Nat) : padU m L N N = unw m L N := by simp [padU]
theorem padU_one (m : Nat) (L : List Int) (N : Nat) (hN : 0 < N) : (List.replicate N (0 : Int)).set 0 (L.getD 0 0) = padU m L N 1 := by
  obtain ⟨d, rfl⟩ : ∃ d, N = d + 1 := ⟨N - 1, by omega⟩
  rw [List.replicate_succ, List.set_cons_zero]
  simp [padU, unw, unwStep]

set_option maxRecDepth 100000 in
set_option maxHeartbeats 1600000 in
theorem implUr_no (n : Int) (L : List Int) (hc0 : codeW n L ≠ 0) : Lists 7 n L [] (codeW n L) := by
  intro hn v w hO
  obtain ⟨a, cap, rfl, hC⟩ := hO.came
  have HI := Lib.hid (checkW_any n a L.length cap L w hC hn)
  have hq : (codeW n L != 0) = true := by simpa using hc0
  clear hC hO hc0
  generalize codeW n L = c at *
  go_enter Try.func7, Try.ntmps7
  go_wp2_with fail
  refine HI.out.mono ?_
  rintro e w1 ⟨rfl, rfl⟩
  go_wp2_with fail
  go_ret2
  exact ⟨_, rfl, Own.zero _ _, Below.refl _ _⟩

set_option maxRecDepth 100000 in
set_option maxHeartbeats 3200000 in
theorem implUr_yes (n : Int) (L : List Int) (hc0 : codeW n L = 0) : Lists 7 n L (unw n.toNat L L.length) 0 := by
  intro hn v w hO
  obtain ⟨hm, hW⟩ := codeW_zero hc0
  obtain ⟨m, rfl, hm1, hm8, hlen⟩ := isMap_nat hm
  obtain ⟨b, cap, rfl, _, hb⟩ := hO.form (isMap_pos hm)
  obtain ⟨a', cap', e', hC⟩ := hO.came
  cases e'
  have HI := Lib.hid (checkW_any m (some ⟨b, 0, none⟩) L.length cap L w hC hn)
  rw [hc0] at HI
  have HCell : Hid (∀ i, i < L.length → w.cell? ⟨b, i, none⟩ = some (.int .i64 (L.getD i 0))) := Lib.hid (fun i hi => hO.cell i hi)
  have HB : Hid (b < w.heap.size) := Lib.hid hb
  have HBd := Lib.hid (unw_bound m L (fun i => isW_getD hW i))
  have HW := Lib.hid (fun i => isW_getD hW i)
  have HN64 := Lib.hid (map_le hm)
  rw [show (m : Int).toNat = m from by simp]
  have hw0 : IntKind.i64.wrap ((m : Int) * (m : Int)) = (L.length : Int) := by
    rw [← Int.natCast_mul, ← hlen]; exact IntWalk.i64_in _ (by have := map_le hm; omega)
  have HPos := Lib.hid (isMap_pos hm)
  clear hC hO hm hW hb hc0 hlen
  generalize hN : L.length = N at *
  have HN := Lib.hid hN
  have hN64 : N ≤ 64 := HN64.out
  clear hN
  go_enter Try.func7, Try.ntmps7
  go_wp2_with fail
  refine HI.out.mono ?_
  rintro e w1 ⟨rfl, rfl⟩
  go_wp2_with fail
  refine (unwrapFrom_any b cap N 0 L _ HPos.out HN64.out HN.out HB.out (HCell.out 0 HPos.out)).mono ?_
  rintro e w1 ⟨g, rfl, o1, b1⟩
  rw [padU_one m L N HPos.out] at o1
  have hg1 : w.heap.size ≤ g ∧ g < w1.heap.size := by
    obtain ⟨g', c', e', h1, h2⟩ := o1.form (by rw [padU_len _ _ _ _ HPos.out]; exact HPos.out)
    simp only [Value.slice.injEq, Option.some.injEq, Addr.mk.injEq, and_true] at e'
    omega
  have HG := Lib.hid hg1
  have O1 : Hid (Own w.heap.size (.slice (some ⟨g, 0, none⟩) N N) (padU m L N 1) (w1.alloc (.cells #[.slice (some ⟨b, 0, none⟩) N cap, .slice (some ⟨g, 0, none⟩) N N] 60))) := Lib.hid (o1.alloc _)
  have B1 : Hid (Below w.heap.size w (w1.alloc (.cells #[.slice (some ⟨b, 0, none⟩) N cap, .slice (some ⟨g, 0, none⟩) N N] 60))) := Lib.hid (b1.alloc b1.size _)
  have T1 : Hid ((w1.alloc (.cells #[.slice (some ⟨b, 0, none⟩) N cap, .slice (some ⟨g, 0, none⟩) N N] 60)).heap[w1.heap.size]? = some (.cells #[.slice (some ⟨b, 0, none⟩) N cap, .slice (some ⟨g, 0, none⟩) N N] 60 (0, 0))) := Lib.hid (heap_alloc_new w1 _)
  clear o1 b1 hg1
  go_wp2_with fail
  go_loopw [8] (fun i wr => ∃ k : Nat, 1 ≤ k ∧ k ≤ N ∧ i = .int .i64 k ∧ Hid (Own w.heap.size (.slice (some ⟨g, 0, none⟩) N N) (padU m L N k) wr) ∧ Hid (wr.heap[w1.heap.size]? = some (.cells #[.slice (some ⟨b, 0, none⟩) N cap, .slice (some ⟨g, 0, none⟩) N N] 60 (0, 0))) ∧ Hid (Below w.heap.size w wr)) (fun i _ => N - (intOf i).toNat)
  case atStart => exact ⟨1, by omega, HPos.out, rfl, O1, T1, B1⟩
  case round =>
    obtain ⟨k, hk1, hk, rfl, O, T, B⟩ := hrel
    have t0 : wr.cell? ⟨w1.heap.size, 0, none⟩ = some (.slice (some ⟨b, 0, none⟩) N cap) := by rw [cell_of_row _ _ _ _ _ _ T.out]; rfl
    have t1 : wr.cell? ⟨w1.heap.size, 1, none⟩ = some (.slice (some ⟨g, 0, none⟩) N N) := by rw [cell_of_row _ _ _ _ _ _ T.out]; rfl
    by_cases hlt : k < N
    · have hdk : decide ((k : Int) < (N : Int)) = true := by simp; omega
      have HS : Hid (∀ j, j < k → unwStep m L (unw m L k) k = (unw m L k).getD j 0 + lessH (L.getD j 0) (L.getD k 0) →
          Calls Try.prog 32 #[.agg #[.slice (some ⟨b, 0, none⟩) N cap, .slice (some ⟨g, 0, none⟩) N N], .int .i64 j, .int .i64 k] wr fun e w' =>
            (∃ r, e = .returned r) ∧ Hid (Own w.heap.size (.slice (some ⟨g, 0, none⟩) N N) (padU m L N (k + 1)) w') ∧ Hid (w'.heap[w1.heap.size]? = some (.cells #[.slice (some ⟨b, 0, none⟩) N cap, .slice (some ⟨g, 0, none⟩) N N] 60 (0, 0))) ∧ Hid (Below w.heap.size w w')) := Lib.hid (fun j hj e => by
        have hT : w1.heap.size < wr.heap.size := (Array.getElem?_eq_some_iff.1 T.out).1
        have hbd := HBd.out k j
        refine (step_any w.heap.size b cap g N j k L (padU m L N k) wr (by omega) hlt (by omega) HN64.out (padU_len m L N k hk) (by have := HB.out; have := B.out.size; omega) (by have := HB.out; have := HG.out; omega)
          ((B.out.cell (p := ⟨b, j, none⟩) HB.out).trans (HCell.out j (by omega))) ((B.out.cell (p := ⟨b, k, none⟩) HB.out).trans (HCell.out k hlt)) (HW.out j) (HW.out k) (by rw [padU_get m L N k j hj]; omega) O.out).mono ?_
        rintro e' w' ⟨h1, o, gr⟩
        refine ⟨h1, Lib.hid ?_, Lib.hid ?_, Lib.hid ?_⟩
        · rw [padU_get m L N k j hj, ← e, padU_set m L N k hlt] at o
          exact o
        · rw [gr.block _ hT (by intro h; injection h with h; have := HG.out; omega)]
          exact T.out
        · exact B.out.grown gr B.out.size (fun q hq => by cases hq; exact HG.out.1))
      by_cases hmod : k % m = 0
      · have hmk : m ≤ k := by
          rcases Nat.lt_or_ge k m with h | h
          · rw [Nat.mod_eq_of_lt h] at hmod; omega
          · exact h
        have hq : (((k : Int) % (m : Int)) == 0) = true := by rw [← Int.natCast_emod, hmod]; rfl
        have HC := Lib.hid (HS.out (k - m) (by omega) (unwStep_up m L _ k (by omega) hmod))
        clear hmod HS
        generalize hj : k - m = j at *
        have hj1 : (k : Int) - (m : Int) = (j : Int) := by omega
        have hjw : IntKind.i64.wrap ((k : Int) - (m : Int)) = (j : Int) := by rw [hj1]; exact IntWalk.i64_in _ (by omega)
        have hjj : IntKind.i64.wrap (j : Int) = (j : Int) := IntWalk.i64_in _ (by omega)
        clear hj
        go_wp2_with fail
        refine HC.out.mono ?_
        rintro e w2 ⟨⟨r, rfl⟩, O3, T3, B3⟩
        go_wp2
        exact ⟨⟨k + 1, by omega, by omega, by go_num, O3, T3, B3⟩, by simp [intOf]; omega⟩
      · have hq : (((k : Int) % (m : Int)) == 0) = false := by rw [← Int.natCast_emod]; simp; omega
        have HC := Lib.hid (HS.out (k - 1) (by omega) (unwStep_left m L _ k (by omega) hmod))
        clear hmod HS
        generalize hj : k - 1 = j at *
        have hj1 : (k : Int) - 1 = (j : Int) := by omega
        have hjw : IntKind.i64.wrap ((k : Int) - 1) = (j : Int) := by rw [hj1]; exact IntWalk.i64_in _ (by omega)
        have hjj : IntKind.i64.wrap (j : Int) = (j : Int) := IntWalk.i64_in _ (by omega)
        clear hj
        go_wp2_with fail
        refine HC.out.mono ?_
        rintro e w2 ⟨⟨r, rfl⟩, O3, T3, B3⟩
        go_wp2
        exact ⟨⟨k + 1, by omega, by omega, by go_num, O3, T3, B3⟩, by simp [intOf]; omega⟩
    · obtain rfl : k = N := by omega
      have O3 := O.out
      rw [padU_all] at O3
      have O4 := Lib.hid O3
      clear O3
      go_wp2
      go_ret2
      exact ⟨_, rfl, O4.out, B.out⟩

end Go.Proofs.Ytjmfffgddmnkmac

namespace Go.Proofs.Ytjmfffgddmnkmac
open Go Go.RowKit

theorem specUr (n : Int) (L : List Int) : Lists 8 n L (resUr n L) (codeW n L) := by
  unfold resUr
  by_cases h : codeW n L = 0
  · rw [if_pos h, h]; exact specUr_yes n L h
  · rw [if_neg h]; exact specUr_no n L h
theorem implUr (n : Int) (L : List Int) : Lists 7 n L (resUr n L) (codeW n L) := by
  unfold resUr
  by_cases h : codeW n L = 0
  · rw [if_pos h, h]; exact implUr_yes n L h
  · rw [if_neg h]; exact implUr_no n L h
end Go.Proofs.Ytjmfffgddmnkmac
