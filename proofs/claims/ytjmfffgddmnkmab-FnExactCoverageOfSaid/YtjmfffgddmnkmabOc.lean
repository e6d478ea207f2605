/- What the laws do to lists of whole numbers: copy one, compare two, mark one and ask for the marks. Condition: as many numbers as a law lets in. -/
import Derived.Test.YtjmfffgddmnkmabOw
import Derived.Lib.Hide
import Derived.Deep.Draws
namespace Go.Proofs.Ytjmfffgddmnkmab
open Go Go.RowKit

theorem Below.drewn {B : Nat} {w : World} (d : Nat) : Below B w (w.drewN d) := ⟨rfl, rfl, rfl, Nat.le_refl _, fun _ _ => rfl⟩

theorem Own.came {B : Nat} {v : Value} {L : List Int} {w : World} (h : Own B v L w) : ∃ a c, v = .slice a L.length c ∧ Came a L.length L w := by
  rcases h.kind with ⟨rfl, rfl⟩ | ⟨g, cap, rfl, hb, hg⟩
  · exact ⟨none, 0, rfl, rfl, fun h0 => absurd h0 (by simp)⟩
  · exact ⟨some ⟨g, 0, none⟩, cap, rfl, rfl, fun _ => ⟨g, 0, rfl, hg, fun i hi => by rw [Nat.zero_add]; exact h.cell i hi⟩⟩

/-- the first k of a list, then zeros -/
def pre (L : List Int) (n k : Nat) : List Int := L.take k ++ List.replicate (n - k) 0
theorem pre_len (L : List Int) (n k : Nat) (h : L.length = n) (hk : k ≤ n) : (pre L n k).length = n := by
  unfold pre; rw [List.length_append, List.length_take, List.length_replicate]; omega
theorem pre_set (L : List Int) (n k : Nat) (h : L.length = n) (hk : k < n) : (pre L n k).set k (L.getD k 0) = pre L n (k + 1) := by
  unfold pre
  obtain ⟨m, hm⟩ : ∃ m, n - k = m + 1 := ⟨n - k - 1, by omega⟩
  have hm2 : n - (k + 1) = m := by omega
  rw [hm, hm2, List.replicate_succ, List.set_append_right _ _ (by rw [List.length_take]; omega)]
  have h0 : k - (L.take k).length = 0 := by rw [List.length_take]; omega
  rw [h0, List.set_cons_zero, take_succ_getD L k (by omega)]
  simp
theorem pre_all (L : List Int) (n : Nat) (h : L.length = n) : pre L n n = L := by
  unfold pre
  rw [List.take_of_length_le (by omega), Nat.sub_self]
  simp

set_option maxRecDepth 100000 in
set_option maxHeartbeats 800000 in
theorem toInt_any (a : Option Addr) (n cap : Nat) (L : List Int) (w : World) (h : Came a n L w) (hn : n ≤ 1048576) :
    Calls Try.prog 115 #[.slice a n cap] w fun e w' => ∃ v, e = .returned v ∧ Own w.heap.size v L w' ∧ Below w.heap.size w w' := by
  obtain ⟨i0, hi, hz0, hz1, hz2⟩ := info_parts info64
  have HL := Lib.hid h.1
  have HC := Lib.hid h.2
  clear h
  go_enter Try.func115, Try.ntmps115
  go_wp2_with (refine wpList_make_full _ rfl _ _ 36 rfl w.heap.size 2 i0 (.int .i64 0) 1 Try.underlying36 hi hz0 hz1 .i64 .i64 n n n rfl rfl rfl rfl ?b2 ?b3 (Nat.le_refl _) ?_)
  case b2 => rw [hz2]; omega
  case b3 => unfold maxLen; omega
  intro w1 hown hgrow
  have O1 : Hid (Own w.heap.size (.slice (some ⟨w.heap.size, 0, none⟩) n n) (pre L n 0) w1) := by
    refine Lib.hid ?_
    have e : (madeCells #[Value.int .i64 0] n).toList = (pre L n 0).map (Value.int .i64) := by
      rw [toList_madeCells_one]
      simp [pre]
    rw [e] at hown
    unfold Own
    rw [pre_len L n 0 HL.out (Nat.zero_le _)]
    exact hown
  have B1 : Hid (Below w.heap.size w w1) := Lib.hid ((Below.refl _ _).grown hgrow (Nat.le_refl _) (fun k hk => by cases hk))
  clear hown hgrow hi hz0 hz1 hz2
  go_wp2
  go_loopw [4] (fun i wr => ∃ k : Nat, k ≤ n ∧ i = .int .i64 k ∧ Hid (Own w.heap.size (.slice (some ⟨w.heap.size, 0, none⟩) n n) (pre L n k) wr) ∧ Hid (Below w.heap.size w wr)) (fun i _ => n - (intOf i).toNat)
  case atStart => exact ⟨0, by omega, rfl, O1, B1⟩
  case round =>
    obtain ⟨k, hk, rfl, O2, B2⟩ := hrel
    by_cases hlt : k < n
    · have hdk : decide ((k : Int) < (n : Int)) = true := by simp; omega
      obtain ⟨b, off, rfl, hb, hc⟩ := HC.out (by omega)
      have c := (B2.out.cell (p := ⟨b, off + k, none⟩) hb).trans (hc k hlt)
      have hl := pre_len L n k HL.out hk
      have o2 : Own w.heap.size (.slice (some ⟨w.heap.size, 0, none⟩) (pre L n k).length n) (pre L n k) wr := by rw [hl]; exact O2.out
      have f := o2.free k
      have c2 := o2.cell k (by omega)
      have O3 : Hid (Own w.heap.size (.slice (some ⟨w.heap.size, 0, none⟩) n n) (pre L n (k + 1)) (wr.setCell ⟨w.heap.size, k, none⟩ (.int .i64 (L.getD k 0)))) := by
        refine Lib.hid ?_
        have := o2.stored k (L.getD k 0)
        rw [pre_set L n k HL.out hlt, hl] at this
        exact this
      have B3 := Lib.hid (B2.out.setCell (p := ⟨w.heap.size, k, none⟩) (Nat.le_refl _) (.int .i64 (L.getD k 0)))
      clear hb hc hl o2
      generalize L.getD k 0 = x at *
      generalize (pre L n k).getD k 0 = y at *
      go_wp2
      exact ⟨⟨k + 1, by omega, by go_num, O3, B3⟩, by simp [intOf]; omega⟩
    · obtain rfl : k = n := by omega
      have O3 := O2.out
      rw [pre_all L k HL.out] at O3
      go_wp2
      go_ret
      exact ⟨_, rfl, O3, B2.out⟩

set_option maxRecDepth 100000 in
set_option maxHeartbeats 800000 in
theorem eqInt_yes (a1 a2 : Option Addr) (n c1 c2 : Nat) (L : List Int) (w : World) (h1 : Came a1 n L w) (h2 : Came a2 n L w) (hn : n ≤ 1048576) :
    Calls Try.prog 39 #[.slice a1 n c1, .slice a2 n c2] w fun e w' => e = .returned (.bool true) ∧ Below w.heap.size w w' := by
  have H1 := Lib.hid h1
  have H2 := Lib.hid h2
  clear h1 h2
  have hnn : ((n : Int) != n) = false := by simp
  go_enter Try.func39, Try.ntmps39
  go_wp2
  go_loopw [5] (fun i wr => ∃ k : Nat, k ≤ n ∧ i = .int .i64 k ∧ Hid (∃ d, wr = w.drewN d)) (fun i _ => n - (intOf i).toNat)
  case atStart => exact ⟨0, by omega, rfl, Lib.hid ⟨0, rfl⟩⟩
  case round =>
    obtain ⟨k, hk, rfl, HW⟩ := hrel
    by_cases hlt : k < n
    · have hdk : decide ((k : Int) < (n : Int)) = true := by simp; omega
      obtain ⟨b1, o1, rfl, hb1, hc1⟩ := H1.out.2 (by omega)
      obtain ⟨b2, o2, rfl, hb2, hc2⟩ := H2.out.2 (by omega)
      have p1 : wr.cell? ⟨b1, o1 + k, none⟩ = some (.int .i64 (L.getD k 0)) := by obtain ⟨d, rfl⟩ := HW.out; rw [World.cell?_drewN]; exact hc1 k hlt
      have p2 : wr.cell? ⟨b2, o2 + k, none⟩ = some (.int .i64 (L.getD k 0)) := by obtain ⟨d, rfl⟩ := HW.out; rw [World.cell?_drewN]; exact hc2 k hlt
      clear hb1 hc1 hb2 hc2
      generalize L.getD k 0 = x at *
      have hxx : (x != x) = false := by simp
      go_wp2
      go_region
      all_goals (try go_wp2)
      all_goals exact ⟨⟨k + 1, by omega, by go_num, by obtain ⟨d, rfl⟩ := HW.out; exact Lib.hid ⟨d + 1, rfl⟩⟩, by simp [intOf]; omega⟩
    · obtain rfl : k = n := by omega
      go_wp2
      go_ret
      obtain ⟨d, rfl⟩ := HW.out
      exact ⟨rfl, Below.drewn d⟩

/-- the numbers from k on -/
def marks (n : Nat) (k : Int) : List Int := (List.range n).map (fun i => k + (i : Nat))
theorem marks_len (n : Nat) (k : Int) : (marks n k).length = n := by simp [marks]
theorem marks_get (n : Nat) (k : Int) (i : Nat) (h : i < n) : (marks n k).getD i 0 = k + i := by
  simp [marks, List.getD_eq_getElem?_getD, h]

set_option maxRecDepth 100000 in
set_option maxHeartbeats 800000 in
theorem held_any (a : Option Addr) (n c : Nat) (w : World) (h : Came a n (marks n 1) w) (hn : n ≤ 1048576) :
    Calls Try.prog 41 #[.slice a n c, .int .i64 1] w fun e w' => e = .returned (.int .i64 (1 + (n : Int))) ∧ w = w' := by
  have H1 := Lib.hid h
  clear h
  go_enter Try.func41, Try.ntmps41
  go_wp2
  go_loopw [1, 5] (fun q i wr => ∃ k : Nat, k ≤ n ∧ i = .int .i64 k ∧ q = .int .i64 (1 + (k : Int)) ∧ wr = w) (fun _ i _ => n - (intOf i).toNat)
  case atStart => exact ⟨0, by omega, rfl, rfl, rfl⟩
  case round =>
    obtain ⟨k, hk, rfl, rfl, rfl⟩ := hrel
    by_cases hlt : k < n
    · have hdk : decide ((k : Int) < (n : Int)) = true := by simp; omega
      obtain ⟨b1, o1, rfl, hb1, hc1⟩ := H1.out.2 (by omega)
      have p1 := hc1 k hlt
      rw [marks_get n 1 k hlt] at p1
      clear hb1 hc1
      have hxx : ((1 + (k : Int)) != 1 + (k : Int)) = false := by simp
      go_wp2
      exact ⟨⟨k + 1, by omega, by go_num, by go_num, by trivial⟩, by simp [intOf]; omega⟩
    · obtain rfl : k = n := by omega
      go_wp2
      go_ret
      exact ⟨rfl, by trivial⟩

/-- the first k numbers marked -/
def mpre (L : List Int) (k : Nat) : List Int := marks k 1 ++ L.drop k
theorem mpre_len (L : List Int) (k : Nat) (hk : k ≤ L.length) : (mpre L k).length = L.length := by
  unfold mpre; rw [List.length_append, marks_len, List.length_drop]; omega
theorem mpre_set (L : List Int) (k : Nat) (hk : k < L.length) : (mpre L k).set k (1 + (k : Int)) = mpre L (k + 1) := by
  unfold mpre
  rw [List.set_append_right _ _ (by rw [marks_len]; omega), marks_len, Nat.sub_self, List.drop_eq_getElem_cons hk, List.set_cons_zero]
  simp [marks, List.range_succ]
theorem mpre_all (L : List Int) : mpre L L.length = marks L.length 1 := by simp [mpre]

set_option maxRecDepth 100000 in
set_option maxHeartbeats 800000 in
theorem mark_any (B : Nat) (v : Value) (L : List Int) (w : World) (h : Own B v L w) (hn : L.length ≤ 1048576) :
    Calls Try.prog 40 #[v, .int .i64 1] w fun e w' => e = .returned (.int .i64 (1 + (L.length : Int))) ∧ Own B v (marks L.length 1) w' ∧ w.grownBy w' v.ownBlock := by
  rcases h.kind with ⟨rfl, rfl⟩ | ⟨g, cap, rfl, hb, hg⟩
  · go_enter Try.func40, Try.ntmps40
    go_wp2
    refine wp_loop_rounds 1 ?_
    rw [rounds_succ]
    go_wp2
    go_ret
    exact ⟨rfl, h, ⟨rfl, rfl, rfl, Nat.le_refl _, fun _ _ _ => rfl⟩⟩
  · have H1 := Lib.hid h
    clear h
    generalize hm : L.length = n at *
    have HM := Lib.hid hm
    clear hm
    have G1 : Hid (w.grownBy w (some g)) := Lib.hid ⟨rfl, rfl, rfl, Nat.le_refl _, fun _ _ _ => rfl⟩
    have O1 : Hid (Own B (.slice (some ⟨g, 0, none⟩) n cap) (mpre L 0) w) := Lib.hid (by simpa [mpre, marks] using H1.out)
    go_enter Try.func40, Try.ntmps40
    go_wp2
    go_loopw [1, 5] (fun q i wr => ∃ k : Nat, k ≤ n ∧ i = .int .i64 k ∧ q = .int .i64 (1 + (k : Int)) ∧ Hid (Own B (.slice (some ⟨g, 0, none⟩) n cap) (mpre L k) wr) ∧ Hid (w.grownBy wr (some g))) (fun _ i _ => n - (intOf i).toNat)
    case atStart => exact ⟨0, by omega, rfl, rfl, O1, G1⟩
    case round =>
      obtain ⟨k, hk, rfl, rfl, O2, G2⟩ := hrel
      by_cases hlt : k < n
      · have hdk : decide ((k : Int) < (n : Int)) = true := by simp; omega
        have hl := mpre_len L k (by rw [HM.out]; exact hk)
        rw [HM.out] at hl
        have o2 : Own B (.slice (some ⟨g, 0, none⟩) (mpre L k).length cap) (mpre L k) wr := by rw [hl]; exact O2.out
        have f := o2.free k
        have c2 := o2.cell k (by omega)
        have O3 : Hid (Own B (.slice (some ⟨g, 0, none⟩) n cap) (mpre L (k + 1)) (wr.setCell ⟨g, k, none⟩ (.int .i64 (1 + (k : Int))))) := by
          refine Lib.hid ?_
          have := o2.stored k (1 + (k : Int))
          rw [mpre_set L k (by rw [HM.out]; exact hlt), hl] at this
          exact this
        have G3 : Hid (w.grownBy (wr.setCell ⟨g, k, none⟩ (.int .i64 (1 + (k : Int)))) (some g)) := by
          refine Lib.hid ?_
          have g1 := G2.out
          refine ⟨g1.os, g1.tape, g1.output, by simpa [World.setCell] using g1.size, fun j hj hne => ?_⟩
          rw [Below.heap_setCell _ _ _ _ (fun e => hne (by rw [e]))]
          exact g1.block j hj hne
        clear hl o2
        generalize (mpre L k).getD k 0 = y at *
        go_wp2
        exact ⟨⟨k + 1, by omega, by go_num, by go_num, O3, G3⟩, by simp [intOf]; omega⟩
      · obtain rfl : k = n := by omega
        have O3 := O2.out
        rw [← HM.out, mpre_all, HM.out] at O3
        go_wp2
        go_ret
        exact ⟨rfl, O3, G2.out⟩

end Go.Proofs.Ytjmfffgddmnkmab
