/- ResiduesOf: program and model answer one list and one code. Condition: none. WrapHeights: program and model answer the list of the wrapped heights, or nothing and the code of what is no height map. Condition: a list that a law lets in. The number that the model finds most often in a list, the least one of several such. Condition: a short list. -/
import Derived.Test.YtjmfffgddmnkmacRm
import Derived.Test.YtjmfffgddmnkmacRi
import Derived.Test.YtjmfffgddmnkmacM9
import Derived.Test.YtjmfffgddmnkmacM10
import Derived.Test.YtjmfffgddmnkmacM11
import Derived.Test.YtjmfffgddmnkmacM8
import Derived.Deep.QuietTactic
import Derived.BigQuiet
namespace Go.Proofs.Ytjmfffgddmnkmac
open Go Go.RowKit

theorem specRs (n : Int) (L : List Int) : Lists 10 n L (resRs n L) (codeW n L) := by
  unfold resRs
  by_cases h : codeW n L = 0
  · rw [if_pos h, h]; exact specRs_yes n L h
  · rw [if_neg h]; exact specRs_no n L h
theorem implRs (n : Int) (L : List Int) : Lists 9 n L (resRs n L) (codeW n L) := by
  unfold resRs
  by_cases h : codeW n L = 0
  · rw [if_pos h, h]; exact implRs_yes n L h
  · rw [if_neg h]; exact implRs_no n L h
end Go.Proofs.Ytjmfffgddmnkmac

namespace Go.Proofs.Ytjmfffgddmnkmac
open Go Go.RowKit

def resWh (n : Int) (L : List Int) : List Int := if isMap n L then L.map wrapH else []
def codeM (n : Int) (L : List Int) : Int := if isMap n L then 0 else 1

theorem isMap_le {n : Int} {L : List Int} (h : isMap n L = true) : L.length ≤ 64 := by
  obtain ⟨m, _, _, h1, h2⟩ := isMap_nat h
  rw [h2]; exact Nat.mul_le_mul h1 h1
theorem resWh_len (n : Int) (L : List Int) : (resWh n L).length ≤ 1048576 := by
  unfold resWh
  split
  · rename_i h
    rw [List.length_map]
    have := isMap_le h
    omega
  · exact Nat.zero_le _

theorem map_take_succ (f : Int → Int) (L : List Int) (k : Nat) (hk : k < L.length) : (L.take k).map f ++ [f (L.getD k 0)] = (L.take (k + 1)).map f := by
  rw [take_succ_getD L k hk, List.map_append]; rfl

theorem pre_map_len (f : Int → Int) (L : List Int) (n k : Nat) (h : L.length = n) (hk : k ≤ n) : (pre (L.map f) n k).length = n := pre_len _ _ _ (by rw [List.length_map]; exact h) hk
theorem getD_map (f : Int → Int) (L : List Int) (k : Nat) (hk : k < L.length) : (L.map f).getD k 0 = f (L.getD k 0) := by
  rw [List.getD_eq_getElem?_getD, List.getD_eq_getElem?_getD, List.getElem?_map, List.getElem?_eq_getElem hk]; rfl

set_option maxRecDepth 100000 in
set_option maxHeartbeats 800000 in
theorem implWh (n : Int) (L : List Int) : Lists 12 n L (resWh n L) (codeM n L) := by
  intro hn v w hO
  obtain ⟨a, cap, rfl, hC⟩ := hO.came
  have HI := Lib.hid (implIs_any n a L.length cap L w hC hn)
  have HR : Hid (resWh n L = if isMap n L then L.map wrapH else []) := Lib.hid rfl
  have HM : Hid (codeM n L = if isMap n L then 0 else 1) := Lib.hid rfl
  have H1 := Lib.hid hC
  have HN := Lib.hid hn
  clear hC hO
  generalize isMap n L = p at *
  generalize resWh n L = R at *
  generalize codeM n L = c at *
  cases p
  · obtain rfl := HR.out
    obtain rfl := HM.out
    go_enter Try.func12, Try.ntmps12
    go_wp2_with fail
    refine HI.out.mono ?_
    rintro e w1 ⟨rfl, rfl⟩
    go_wp2_with fail
    go_ret2
    exact ⟨_, rfl, Own.zero _ _, Below.refl _ _⟩
  · obtain rfl := HR.out
    obtain rfl := HM.out
    obtain ⟨i0, hi, hz0, hz1, hz2⟩ := info_parts info64
    generalize hm : L.length = m at *
    have HL := Lib.hid hm
    clear hm
    go_enter Try.func12, Try.ntmps12
    go_wp2_with fail
    refine HI.out.mono ?_
    rintro e w1 ⟨rfl, rfl⟩
    go_wp2_with (refine wpList_make_full _ rfl _ _ 24 rfl w.heap.size 2 i0 (.int .i64 0) 1 Try.underlying24 hi hz0 hz1 .i64 .i64 m m m rfl rfl rfl rfl ?b2 ?b3 (Nat.le_refl _) ?_)
    case b2 => rw [hz2]; omega
    case b3 => unfold maxLen; omega
    intro w1 hown hgrow
    have O1 : Hid (Own w.heap.size (.slice (some ⟨w.heap.size, 0, none⟩) m m) (pre (L.map wrapH) m 0) w1) := by
      refine Lib.hid ?_
      have e : (madeCells #[Value.int .i64 0] m).toList = (pre (L.map wrapH) m 0).map (Value.int .i64) := by
        rw [toList_madeCells_one]
        simp [pre]
      rw [e] at hown
      unfold Own
      rw [pre_map_len wrapH L m 0 HL.out (Nat.zero_le _)]
      exact hown
    have B1 : Hid (Below w.heap.size w w1) := Lib.hid ((Below.refl _ _).grown hgrow (Nat.le_refl _) (fun k hk => by cases hk))
    clear hown hgrow hi hz0 hz1 hz2
    go_wp2
    go_loopw [18] (fun i wr => ∃ k : Nat, k ≤ m ∧ i = .int .i64 k ∧ Hid (Own w.heap.size (.slice (some ⟨w.heap.size, 0, none⟩) m m) (pre (L.map wrapH) m k) wr) ∧ Hid (Below w.heap.size w wr)) (fun i _ => m - (intOf i).toNat)
    case atStart => exact ⟨0, by omega, rfl, O1, B1⟩
    case round =>
      obtain ⟨k, hk, rfl, O2, B2⟩ := hrel
      by_cases hlt : k < m
      · have hdk : decide ((k : Int) < (m : Int)) = true := by simp; omega
        obtain ⟨b, off, rfl, hb, hc⟩ := H1.out.2 (by omega)
        have c := (B2.out.cell (p := ⟨b, off + k, none⟩) hb).trans (hc k hlt)
        have hl := pre_map_len wrapH L m k HL.out hk
        have o2 : Own w.heap.size (.slice (some ⟨w.heap.size, 0, none⟩) (pre (L.map wrapH) m k).length m) (pre (L.map wrapH) m k) wr := by rw [hl]; exact O2.out
        have f := o2.free k
        have c2 := o2.cell k (by omega)
        have O3 : Hid (Own w.heap.size (.slice (some ⟨w.heap.size, 0, none⟩) m m) (pre (L.map wrapH) m (k + 1)) (wr.setCell ⟨w.heap.size, k, none⟩ (.int .i64 (wrapH (L.getD k 0))))) := by
          refine Lib.hid ?_
          have := o2.stored k (wrapH (L.getD k 0))
          rw [← getD_map wrapH L k (by rw [HL.out]; exact hlt), pre_set (L.map wrapH) m k (by rw [List.length_map]; exact HL.out) hlt, hl] at this
          rw [← getD_map wrapH L k (by rw [HL.out]; exact hlt)]
          exact this
        have B3 := Lib.hid (B2.out.setCell (p := ⟨w.heap.size, k, none⟩) (Nat.le_refl _) (.int .i64 (wrapH (L.getD k 0))))
        clear hb hc hl o2
        generalize L.getD k 0 = x at *
        generalize (pre (L.map wrapH) m k).getD k 0 = y at *
        go_wp2_with fail
        refine (remainder_any x _).mono ?_
        rintro e w1 ⟨rfl, rfl⟩
        go_wp2
        exact ⟨⟨k + 1, by omega, by go_num, O3, B3⟩, by simp [intOf]; omega⟩
      · obtain rfl : k = m := by omega
        have O3 := O2.out
        rw [pre_all (L.map wrapH) k (by rw [List.length_map]; exact HL.out)] at O3
        have O4 := Lib.hid O3
        clear O3
        go_wp2
        go_ret2
        exact ⟨_, rfl, O4.out, B2.out⟩

end Go.Proofs.Ytjmfffgddmnkmac

namespace Go.Proofs.Ytjmfffgddmnkmac
open Go Go.RowKit

set_option maxRecDepth 100000 in
set_option maxHeartbeats 3200000 in
theorem specMost_any (a : Option Addr) (n cap : Nat) (L : List Int) (w : World) (h : Came a n L w) (hn : n ≤ 64) :
    Calls Try.prog 62 #[.slice a n cap] w fun e w' => e = .returned (.int .i64 (mostOf L)) ∧ Below w.heap.size w w' := by
  have H1 := Lib.hid h
  have HL := Lib.hid h.1
  have HM : Hid (∀ b m, BestIn L L b m → mostOf L = b) := Lib.hid (fun b m h => mostOf_eq h)
  clear h
  generalize mostOf L = M at *
  go_enter Try.func62, Try.ntmps62
  go_wp2
  go_loopw [3, 4, 5] (fun bv mv i wr => ∃ (k m : Nat) (b : Int), k ≤ n ∧ m ≤ n ∧ i = .int .i64 k ∧ bv = .int .i64 b ∧ mv = .int .i64 m ∧ Hid (BestIn (L.take k) L b m) ∧ Hid (∃ d, wr = w.drewN d)) (fun _ _ i _ => n - (intOf i).toNat)
  case atStart => exact ⟨0, 0, 0, by omega, by omega, rfl, rfl, rfl, Lib.hid (BestIn.zero L), Lib.hid ⟨0, rfl⟩⟩
  case round =>
    obtain ⟨k, m, b, hk, hm, rfl, rfl, rfl, HB, HW⟩ := hrel
    by_cases hlt : k < n
    · have hdk : decide ((k : Int) < (n : Int)) = true := by simp; omega
      obtain ⟨b1, o1, rfl, hb1, hc1⟩ := H1.out.2 (by omega)
      have HC1 := Lib.hid hc1
      have HCP := Lib.hid (count_pos_at L k (by rw [HL.out]; exact hlt))
      have HCL := Lib.hid (cntTo_all L (L.getD k 0))
      have HTK := Lib.hid (HB.out.take (L.getD k 0))
      have HKP := Lib.hid (HB.out.keep (L.getD k 0) HCP.out)
      rw [← take_snoc L k (by rw [HL.out]; exact hlt)] at HTK HKP
      have p1 := hc1 k hlt
      have HY := Lib.hid (rfl : L.getD k 0 = L.getD k 0)
      clear hb1 hc1 H1
      generalize hy : L.getD k 0 = y at *
      have HYK := Lib.hid hy
      clear hy HY
      go_wp2_with fail
      go_loopw [6, 7] (fun c j wr => ∃ (q : Nat), q ≤ n ∧ j = .int .i64 q ∧ c = .int .i64 (cntTo L y q) ∧ Hid (∃ d, wr = w.drewN d)) (fun _ j _ => n - (intOf j).toNat)
      case atStart => exact ⟨0, by omega, rfl, by rw [cntTo_zero]; rfl, HW⟩
      case round =>
        obtain ⟨q, hq, rfl, rfl, HW⟩ := hrel
        by_cases hlt2 : q < n
        · have hdq : decide ((q : Int) < (n : Int)) = true := by simp; omega
          have p2 : wr.cell? ⟨b1, o1 + q, none⟩ = some (.int .i64 (L.getD q 0)) := by obtain ⟨d, rfl⟩ := HW.out; exact HC1.out q hlt2
          have p3 : wr.cell? ⟨b1, o1 + k, none⟩ = some (.int .i64 y) := by obtain ⟨d, rfl⟩ := HW.out; rw [← HYK.out]; exact HC1.out k hlt
          have hcl := cntTo_le L y q
          by_cases he : L.getD q 0 = y
          · have HS := Lib.hid (cntTo_hit L y q (by rw [HL.out]; exact hlt2) he)
            rw [he] at p2
            have hyy : (y == y) = true := by simp
            clear he
            generalize cntTo L y q = c at *
            go_wp2_with fail
            go_quiet (fail)
            go_wp2
            exact ⟨⟨q + 1, by omega, by go_num, by rw [HS.out]; go_num, by obtain ⟨d, rfl⟩ := HW.out; exact Lib.hid ⟨d + nq, by rw [World.drewN_drewN]⟩⟩, by simp [intOf]; omega⟩
          · have HS := Lib.hid (cntTo_miss L y q (by rw [HL.out]; exact hlt2) he)
            have hyy : (L.getD q 0 == y) = false := by simpa using he
            clear he
            generalize cntTo L y q = c at *
            generalize L.getD q 0 = z at *
            go_wp2_with fail
            go_quiet (fail)
            go_wp2
            exact ⟨⟨q + 1, by omega, by go_num, by rw [HS.out], by obtain ⟨d, rfl⟩ := HW.out; exact Lib.hid ⟨d + nq, by rw [World.drewN_drewN]⟩⟩, by simp [intOf]; omega⟩
        · obtain rfl : q = n := by omega
          have p3 : wr.cell? ⟨b1, o1 + k, none⟩ = some (.int .i64 y) := by obtain ⟨d, rfl⟩ := HW.out; rw [← HYK.out]; exact HC1.out k hlt
          have hcl := cntTo_le L y q
          have HCC : Hid (cntTo L y q = L.count y) := by rw [← HCL.out, HL.out]; exact Lib.hid rfl
          rw [← HCC.out] at HTK HKP
          generalize cntTo L y q = c at *
          by_cases h1 : m < c
          · have HN := Lib.hid (HTK.out (.inl h1))
            have d1 : decide ((c : Int) > (m : Int)) = true := by simp; omega
            clear HTK HKP
            go_wp2
            exact ⟨⟨k + 1, c, y, by omega, by omega, by go_num, rfl, rfl, HN, HW⟩, by simp [intOf]; omega⟩
          · have d1 : decide ((c : Int) > (m : Int)) = false := by simp; omega
            by_cases h2 : c = m
            · subst h2
              have d2 : ((c : Int) == (c : Int)) = true := by simp
              by_cases h3 : y < b
              · have HN := Lib.hid (HTK.out (.inr ⟨rfl, h3⟩))
                have d3 : decide (y < b) = true := by simp; omega
                clear HTK HKP
                go_wp2
                exact ⟨⟨k + 1, c, y, by omega, by omega, by go_num, rfl, rfl, HN, HW⟩, by simp [intOf]; omega⟩
              · have HN := Lib.hid (HKP.out (by have := HCC.out; omega))
                have d3 : decide (y < b) = false := by simp; omega
                clear HTK HKP
                go_wp2
                exact ⟨⟨k + 1, c, b, by omega, by omega, by go_num, rfl, rfl, HN, HW⟩, by simp [intOf]; omega⟩
            · have d2 : ((c : Int) == (m : Int)) = false := by simp; omega
              have HN := Lib.hid (HKP.out (by have := HCC.out; omega))
              clear HTK HKP
              go_wp2
              exact ⟨⟨k + 1, m, b, by omega, by omega, by go_num, rfl, rfl, HN, HW⟩, by simp [intOf]; omega⟩
    · obtain rfl : k = n := by omega
      have hfin := HB.out
      rw [List.take_of_length_le (by rw [HL.out]; exact Nat.le_refl _)] at hfin
      have HF := Lib.hid (HM.out b m hfin)
      clear hfin
      go_wp2
      go_ret
      obtain ⟨d, rfl⟩ := HW.out
      exact ⟨by rw [HF.out]; rfl, Below.drewn d⟩

end Go.Proofs.Ytjmfffgddmnkmac
