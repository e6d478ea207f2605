/- The number that the model finds most often in a list, the least one of several such. Condition: a short list. -/
import Derived.Test.YtlkgdfednejhiaaMq
import Derived.Test.YtlkgdfednejhiaaOc
import Derived.Deep.QuietTactic
import Derived.BigQuiet
namespace Go.Proofs.Ytlkgdfednejhiaa
open Go Go.RowKit

set_option maxRecDepth 100000 in
set_option maxHeartbeats 3200000 in
theorem specMost_any (a : Option Addr) (n cap : Nat) (L : List Int) (w : World) (h : Came a n L w) (hn : n ≤ 64) :
    Calls Try.prog 74 #[.slice a n cap] w fun e w' => e = .returned (.int .i64 (mostOf L)) ∧ Below w.heap.size w w' := by
  have H1 := Lib.hid h
  have HL := Lib.hid h.1
  have HM : Hid (∀ b m, BestIn L L b m → mostOf L = b) := Lib.hid (fun b m h => mostOf_eq h)
  clear h
  generalize mostOf L = M at *
  go_enter Try.func74, Try.ntmps74
  go_wp2
  go_loopw [3, 4, 5] (fun bv mv i wr => ∃ (k m : Nat) (b : Int), k ≤ n ∧ m ≤ n ∧ i = .int .i64 k ∧ bv = .int .i64 b ∧ mv = .int .i64 m ∧ Hid (BestIn (L.take k) L b m) ∧ Hid (∃ d, wr = w.drewN d)) (fun _ _ i _ => n - (intOf i).toNat)
  case atStart => exact ⟨0, 0, 0, by omega, by omega, rfl, rfl, rfl, Lib.hid (BestIn.zero L), Lib.hid ⟨0, rfl⟩⟩
  case round =>
    obtain ⟨k, m, b, hk, hm, rfl, rfl, rfl, HB, HW⟩ := hrel
    by_cases hlt : k < n
    · have hdk : decide ((k : Int) < (n : Int)) = true := by simp; omega
      obtain ⟨b1, o1, rfl, hb1, hc1⟩ := H1.out.2 (by omega)
      have HC1 := Lib.hid hc1
      have HCP := Lib.hid (count_pos_at L k (by rw [HL.out]; exact hlt))
      have HCL := Lib.hid (cntTo_all L (L.getD k 0))
      have HTK := Lib.hid (HB.out.take (L.getD k 0))
      have HKP := Lib.hid (HB.out.keep (L.getD k 0) HCP.out)
      rw [← take_snoc L k (by rw [HL.out]; exact hlt)] at HTK HKP
      have p1 := hc1 k hlt
      have HY := Lib.hid (rfl : L.getD k 0 = L.getD k 0)
      clear hb1 hc1 H1
      generalize hy : L.getD k 0 = y at *
      have HYK := Lib.hid hy
      clear hy HY
      go_wp2_with fail
      go_loopw [6, 7] (fun c j wr => ∃ (q : Nat), q ≤ n ∧ j = .int .i64 q ∧ c = .int .i64 (cntTo L y q) ∧ Hid (∃ d, wr = w.drewN d)) (fun _ j _ => n - (intOf j).toNat)
      case atStart => exact ⟨0, by omega, rfl, by rw [cntTo_zero]; rfl, HW⟩
      case round =>
        obtain ⟨q, hq, rfl, rfl, HW⟩ := hrel
        by_cases hlt2 : q < n
        · have hdq : decide ((q : Int) < (n : Int)) = true := by simp; omega
          have p2 : wr.cell? ⟨b1, o1 + q, none⟩ = some (.int .i64 (L.getD q 0)) := by obtain ⟨d, rfl⟩ := HW.out; exact HC1.out q hlt2
          have p3 : wr.cell? ⟨b1, o1 + k, none⟩ = some (.int .i64 y) := by obtain ⟨d, rfl⟩ := HW.out; rw [← HYK.out]; exact HC1.out k hlt
          have hcl := cntTo_le L y q
          by_cases he : L.getD q 0 = y
          · have HS := Lib.hid (cntTo_hit L y q (by rw [HL.out]; exact hlt2) he)
            rw [he] at p2
            have hyy : (y == y) = true := by simp
            clear he
            generalize cntTo L y q = c at *
            go_wp2_with fail
            go_quiet (fail)
            go_wp2
            exact ⟨⟨q + 1, by omega, by go_num, by rw [HS.out]; go_num, by obtain ⟨d, rfl⟩ := HW.out; exact Lib.hid ⟨d + nq, by rw [World.drewN_drewN]⟩⟩, by simp [intOf]; omega⟩
          · have HS := Lib.hid (cntTo_miss L y q (by rw [HL.out]; exact hlt2) he)
            have hyy : (L.getD q 0 == y) = false := by simpa using he
            clear he
            generalize cntTo L y q = c at *
            generalize L.getD q 0 = z at *
            go_wp2_with fail
            go_quiet (fail)
            go_wp2
            exact ⟨⟨q + 1, by omega, by go_num, by rw [HS.out], by obtain ⟨d, rfl⟩ := HW.out; exact Lib.hid ⟨d + nq, by rw [World.drewN_drewN]⟩⟩, by simp [intOf]; omega⟩
        · obtain rfl : q = n := by omega
          have p3 : wr.cell? ⟨b1, o1 + k, none⟩ = some (.int .i64 y) := by obtain ⟨d, rfl⟩ := HW.out; rw [← HYK.out]; exact HC1.out k hlt
          have hcl := cntTo_le L y q
          have HCC : Hid (cntTo L y q = L.count y) := by rw [← HCL.out, HL.out]; exact Lib.hid rfl
          rw [← HCC.out] at HTK HKP
          generalize cntTo L y q = c at *
          by_cases h1 : m < c
          · have HN := Lib.hid (HTK.out (.inl h1))
            have d1 : decide ((c : Int) > (m : Int)) = true := by simp; omega
            clear HTK HKP
            go_wp2
            exact ⟨⟨k + 1, c, y, by omega, by omega, by go_num, rfl, rfl, HN, HW⟩, by simp [intOf]; omega⟩
          · have d1 : decide ((c : Int) > (m : Int)) = false := by simp; omega
            by_cases h2 : c = m
            · subst h2
              have d2 : ((c : Int) == (c : Int)) = true := by simp
              by_cases h3 : y < b
              · have HN := Lib.hid (HTK.out (.inr ⟨rfl, h3⟩))
                have d3 : decide (y < b) = true := by simp; omega
                clear HTK HKP
                go_wp2
                exact ⟨⟨k + 1, c, y, by omega, by omega, by go_num, rfl, rfl, HN, HW⟩, by simp [intOf]; omega⟩
              · have HN := Lib.hid (HKP.out (by have := HCC.out; omega))
                have d3 : decide (y < b) = false := by simp; omega
                clear HTK HKP
                go_wp2
                exact ⟨⟨k + 1, c, b, by omega, by omega, by go_num, rfl, rfl, HN, HW⟩, by simp [intOf]; omega⟩
            · have d2 : ((c : Int) == (m : Int)) = false := by simp; omega
              have HN := Lib.hid (HKP.out (by have := HCC.out; omega))
              clear HTK HKP
              go_wp2
              exact ⟨⟨k + 1, m, b, by omega, by omega, by go_num, rfl, rfl, HN, HW⟩, by simp [intOf]; omega⟩
    · obtain rfl : k = n := by omega
      have hfin := HB.out
      rw [List.take_of_length_le (by rw [HL.out]; exact Nat.le_refl _)] at hfin
      have HF := Lib.hid (HM.out b m hfin)
      clear hfin
      go_wp2
      go_ret
      obtain ⟨d, rfl⟩ := HW.out
      exact ⟨by rw [HF.out]; rfl, Below.drewn d⟩

end Go.Proofs.Ytlkgdfednejhiaa
