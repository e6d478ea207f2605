/- The number that the program finds most often in a list, which it sorts. Condition: a short list of its own. -/
import Derived.Test.YtjmfffgddmnkmacM11
import Derived.Test.YtjmfffgddmnkmacM9
import Derived.Test.YtjmfffgddmnkmacSh7
import Derived.Test.YtjmfffgddmnkmacM3
import Derived.Sort.OwnSortedInts
namespace Go.Proofs.Ytjmfffgddmnkmac
open Go Go.RowKit

/-- a list, sorted -/
def srt (L : List Int) : List Int := L.mergeSort fun x y => decide (x ≤ y)
theorem srt_len (L : List Int) : (srt L).length = L.length := (List.mergeSort_perm L _).length_eq
theorem srt_perm (L : List Int) : (srt L).Perm L := List.mergeSort_perm L _
theorem srt_pairwise (L : List Int) : (srt L).Pairwise (· ≤ ·) := by
  have h := List.pairwise_mergeSort (le := fun x y : Int => decide (x ≤ y)) (fun a b c h1 h2 => by simp at *; omega) (fun a b => by simp; omega) L
  exact h.imp (fun h => by simpa using h)

theorem sort_any (B g cap : Nat) (L : List Int) (w : World) (hO : Own B (.slice (some ⟨g, 0, none⟩) L.length cap) L w) (hn : L.length ≤ 1048576) :
    Calls Try.prog 77 #[.slice (some ⟨g, 0, none⟩) L.length cap] w fun e w' => (∃ r, e = .returned r) ∧ Own B (.slice (some ⟨g, 0, none⟩) L.length cap) (srt L) w' ∧ w.grownBy w' (some g) := by
  rcases hO.2 with ⟨h, _⟩ | ⟨g', cap', cur, h, hb, hg, hn1, hn2, hn3, ht⟩
  · cases h
  · cases h
    rw [Nat.mul_one] at ht
    have hlt : g < w.heap.size := (Array.getElem?_eq_some_iff.1 hg).1
    refine (Try.slices_Sort_int g 0 cap L w (holds_of_blockI hg ht) hlt (by omega)).mono ?_
    rintro e w' ⟨rfl, n, os, rfl⟩
    refine ⟨⟨_, rfl⟩, ?_, grownBy_sortedI _⟩
    unfold Own
    rw [srt_len]
    exact ownsRow_sortedI (srt_len L) hb hg hn1 hn2 hn3

set_option maxRecDepth 100000 in
theorem sort_nil (w : World) : Calls Try.prog 77 #[.slice none 0 0] w fun e w' => e = .returned (.tuple #[]) ∧ w = w' :=
  calls_of (fun _ => false) (known_none _) 999 (fun cs => by kernel_rfl)

theorem srt_nil : srt [] = [] := by simp [srt]

set_option maxRecDepth 100000 in
set_option maxHeartbeats 800000 in
theorem implMost_nil (w : World) : Calls Try.prog 60 #[.slice none 0 0] w fun e w' => e = .returned (.int .i64 0) ∧ w = w' := by
  go_enter Try.func60, Try.ntmps60
  go_wp2_with fail
  refine (sort_nil _).mono ?_
  rintro e w1 ⟨rfl, rfl⟩
  go_wp2_with fail
  refine wp_loop_rounds 1 ?_
  rw [rounds_succ]
  go_wp2
  go_ret
  exact ⟨rfl, rfl⟩

/-- how often the number before the place k stands before it -/
def runTo (S : List Int) (k : Nat) : Nat := if k = 0 then 0 else (S.take k).count (S.getD (k - 1) 0)
theorem runTo_same (S : List Int) (k : Nat) (h : S.getD (k + 1) 0 = S.getD k 0) : (S.take (k + 1)).count (S.getD (k + 1) 0) = runTo S (k + 1) := by
  unfold runTo
  rw [if_neg (by omega), h]
  rfl
theorem runTo_next (S : List Int) (k : Nat) (hk : k < S.length) : runTo S (k + 1) = (S.take k).count (S.getD k 0) + 1 := by
  unfold runTo
  rw [if_neg (by omega), take_snoc S k hk, Nat.add_sub_cancel, List.count_append]
  simp
theorem runTo_le (S : List Int) (k : Nat) : runTo S k ≤ k := by
  unfold runTo
  split
  · omega
  · exact Nat.le_trans List.count_le_length (by rw [List.length_take]; omega)
theorem take_le (S : List Int) (hS : S.Pairwise (· ≤ ·)) (k : Nat) (hk : k < S.length) : ∀ x ∈ S.take k, x ≤ S.getD k 0 := by
  intro x hx
  obtain ⟨i, hi, hl, e⟩ := mem_take_at S k x hx
  rw [← e]
  exact sorted_le S hS i k (by omega) hk

set_option maxRecDepth 100000 in
set_option maxHeartbeats 3200000 in
theorem implMost_row (B g cap : Nat) (L : List Int) (w : World) (hO : Own B (.slice (some ⟨g, 0, none⟩) L.length cap) L w) (hn : L.length ≤ 64) :
    Calls Try.prog 60 #[.slice (some ⟨g, 0, none⟩) L.length cap] w fun e w' => e = .returned (.int .i64 (mostOf L)) ∧ w.grownBy w' (some g) := by
  have HSO := Lib.hid (sort_any B g cap L w hO (by omega))
  have HM : Hid (∀ b m, BestIn (srt L) (srt L) b m → mostOf L = b) := Lib.hid (fun b m h => mostOf_eq (h.perm (srt_perm L)))
  have HP := Lib.hid (srt_pairwise L)
  have HL := Lib.hid (srt_len L)
  clear hO
  generalize mostOf L = M at *
  generalize srt L = S at *
  generalize hNN : L.length = N at *
  clear hNN
  go_enter Try.func60, Try.ntmps60
  go_wp2_with fail
  refine HSO.out.mono ?_
  rintro e w1 ⟨⟨r, rfl⟩, o1, g1⟩
  have HG := Lib.hid g1
  have HC : Hid (∀ i, i < N → w1.cell? ⟨g, i, none⟩ = some (.int .i64 (S.getD i 0))) := Lib.hid (fun i hi => by
    have o2 : Own B (.slice (some ⟨g, 0, none⟩) S.length cap) S w1 := by rw [HL.out]; exact o1
    exact o2.cell i (by rw [HL.out]; exact hi))
  clear o1 g1 HSO
  go_wp2_with fail
  go_loopw [3, 4, 5, 12] (fun bv mv cv i wr => ∃ (k m : Nat) (b : Int), k ≤ N ∧ m ≤ N ∧ i = .int .i64 k ∧ bv = .int .i64 b ∧ mv = .int .i64 m ∧ cv = .int .i64 (runTo S k) ∧ Hid (BestIn (S.take k) (S.take k) b m) ∧ wr = w1) (fun _ _ _ i _ => N - (intOf i).toNat)
  case atStart => exact ⟨0, 0, 0, by omega, by omega, rfl, rfl, rfl, rfl, Lib.hid (BestIn.zero _), rfl⟩
  case round =>
    obtain ⟨k, m, b, hk, hm, rfl, rfl, rfl, rfl, HB, rfl⟩ := hrel
    by_cases hlt : k < N
    · have hdk : decide ((k : Int) < (N : Int)) = true := by simp; omega
      have p1 := HC.out k hlt
      have HRN := Lib.hid (runTo_next S k (by rw [HL.out]; exact hlt))
      have HUP := Lib.hid (fun h => HB.out.up (S.getD k 0) h (take_le S HP.out k (by rw [HL.out]; exact hlt)))
      have HST := Lib.hid (fun h => HB.out.stay (S.getD k 0) h (take_le S HP.out k (by rw [HL.out]; exact hlt)))
      rw [← take_snoc S k (by rw [HL.out]; exact hlt), ← HRN.out] at HUP HST
      have hr1 := runTo_le S (k + 1)
      rcases Nat.eq_zero_or_pos k with h0 | h0
      · subst h0
        have hr : (runTo S 0) = 0 := rfl
        have hr2 : runTo S (0 + 1) = 1 := by rw [HRN.out]; simp
        rw [hr2] at HUP HST
        rw [hr]
        clear HRN hr
        generalize S.getD 0 0 = y at *
        have d0 : decide ((0 : Int) > 0) = false := by simp
        by_cases hq : m < 1
        · have HN := Lib.hid (HUP.out hq)
          have dq : decide (((1 : Nat) : Int) > (m : Int)) = true := by simp; omega
          clear HUP HST
          go_wp2
          exact ⟨⟨0 + 1, 1, y, by omega, by omega, by go_num, rfl, by go_num, by rw [hr2]; go_num, HN, by trivial⟩, by simp [intOf]; omega⟩
        · have HN := Lib.hid (HST.out hq)
          have dq : decide (((1 : Nat) : Int) > (m : Int)) = false := by simp; omega
          clear HUP HST
          go_wp2
          exact ⟨⟨0 + 1, m, b, by omega, by omega, by go_num, rfl, rfl, by rw [hr2]; go_num, HN, by trivial⟩, by simp [intOf]; omega⟩
      · obtain ⟨k', hk'⟩ : ∃ k', k = k' + 1 := ⟨k - 1, by omega⟩
        have HK := Lib.hid hk'
        clear hk'
        have p2 := HC.out (k - 1) (by omega)
        have dk : decide ((k : Int) > 0) = true := by simp; omega
        have hj1 : (k : Int) - 1 = ((k - 1 : Nat) : Int) := by omega
        by_cases he : S.getD k 0 = S.getD (k - 1) 0
        · have hr2 : runTo S (k + 1) = runTo S k + 1 := by
            rw [HRN.out]
            have hk' := HK.out
            subst hk'
            rw [Nat.add_sub_cancel] at he
            rw [runTo_same S k' he]
          have hne : (S.getD k 0 != S.getD (k - 1) 0) = false := by rw [he]; simp
          rw [hr2] at HUP HST hr1
          have HR2 := Lib.hid hr2
          clear HRN hr2 he
          generalize hj : k - 1 = j at *
          clear hj
          generalize S.getD k 0 = y at *
          generalize S.getD j 0 = z at *
          generalize hc : runTo S k = c at *
          clear hc
          by_cases hq : m < (c + 1)
          · have HN := Lib.hid (HUP.out hq)
            have dq : decide ((((c + 1) : Nat) : Int) > (m : Int)) = true := by simp; omega
            clear HUP HST
            go_wp2
            exact ⟨⟨k + 1, (c + 1), y, by omega, by omega, by go_num, rfl, by go_num, by rw [HR2.out]; go_num, HN, by trivial⟩, by simp [intOf]; omega⟩
          · have HN := Lib.hid (HST.out hq)
            have dq : decide ((((c + 1) : Nat) : Int) > (m : Int)) = false := by simp; omega
            clear HUP HST
            go_wp2
            exact ⟨⟨k + 1, m, b, by omega, by omega, by go_num, rfl, rfl, by rw [HR2.out]; go_num, HN, by trivial⟩, by simp [intOf]; omega⟩
        · have hr2 : runTo S (k + 1) = 0 + 1 := by
            rw [HRN.out]
            have hk' := HK.out
            subst hk'
            rw [Nat.add_sub_cancel] at he
            rw [fresh_count S HP.out k' (by rw [HL.out]; exact hlt) he]
          have hne : (S.getD k 0 != S.getD (k - 1) 0) = true := by simpa using he
          rw [hr2] at HUP HST hr1
          have HR2 := Lib.hid hr2
          clear HRN hr2 he
          generalize hj : k - 1 = j at *
          clear hj
          generalize S.getD k 0 = y at *
          generalize S.getD j 0 = z at *
          generalize hc : runTo S k = c at *
          clear hc
          by_cases hq : m < (0 + 1)
          · have HN := Lib.hid (HUP.out hq)
            have dq : decide ((((0 + 1) : Nat) : Int) > (m : Int)) = true := by simp; omega
            clear HUP HST
            go_wp2
            exact ⟨⟨k + 1, (0 + 1), y, by omega, by omega, by go_num, rfl, by go_num, by rw [HR2.out]; go_num, HN, by trivial⟩, by simp [intOf]; omega⟩
          · have HN := Lib.hid (HST.out hq)
            have dq : decide ((((0 + 1) : Nat) : Int) > (m : Int)) = false := by simp; omega
            clear HUP HST
            go_wp2
            exact ⟨⟨k + 1, m, b, by omega, by omega, by go_num, rfl, rfl, by rw [HR2.out]; go_num, HN, by trivial⟩, by simp [intOf]; omega⟩
    · obtain rfl : k = N := by omega
      have hfin := HB.out
      rw [List.take_of_length_le (by rw [HL.out]; exact Nat.le_refl _)] at hfin
      have HF := Lib.hid (HM.out b m hfin)
      clear hfin
      generalize runTo S k = c at *
      go_wp2
      go_ret
      exact ⟨by rw [HF.out]; rfl, HG.out⟩

end Go.Proofs.Ytjmfffgddmnkmac
