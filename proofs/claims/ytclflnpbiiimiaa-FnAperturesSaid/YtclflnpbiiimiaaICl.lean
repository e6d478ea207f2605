/- The program's CorrelateLists: the list and the code, whatever the lists are. Condition: as many numbers as a law lets in. -/
import Derived.Test.YtclflnpbiiimiaaM29
import Derived.Test.YtclflnpbiiimiaaM30
import Derived.Deep.CutBlock
import Derived.Deep.DeepCutAuto
namespace Go.Proofs.Ytclflnpbiiimiaa
open Go Go.RowKit Go.Shelf Ieee

theorem cl_chk (A B : List Nat) : chk (clOk A B) [A, B] = (if A.all fin = false then 1 else if B.all fin = false then 1 else if clOk A B = false then 2 else 0) := by
  unfold chk
  simp only [List.all_cons, List.all_nil, Bool.and_true]
  cases A.all fin <;> cases B.all fin <;> cases clOk A B <;> rfl
theorem corC_enters : ∀ (args : Array Value) w, (callFunc 43 args).run Try.prog w = .ok (.enter 43 args) w := enters_of Try.func43 (by kernel_rfl) rfl
theorem corC_same (A B : List Nat) (n k : Nat) (hB : B.length = n) : atC A B n k = accTo (corF A B k) n := by
  unfold atC corF
  congr 1
  funext j
  rw [show (((j : Int) + k) % n).toNat = (j + k) % B.length by rw [hB, show ((j : Int) + k) = ((j + k : Nat) : Int) from rfl]; rfl]

set_option maxRecDepth 100000 in
set_option maxHeartbeats 1600000 in
theorem implCl (A B : List Nat) : Lists2F 16 A B (clList A B) (clCode A B) := by
  intro lA lB u v w hU hV
  obtain ⟨aA, cA, rfl, hA⟩ := hU.came
  obtain ⟨aB, cB, rfl, hB⟩ := hV.came
  have HLA := Lib.hid lA
  have HLB := Lib.hid lB
  obtain ⟨q, hq⟩ : ∃ q, q = decide (A.length = B.length) := ⟨_, rfl⟩
  have hq1 : (((A.length : Nat) : Int) == ((B.length : Nat) : Int)) = q := by
    rw [hq]
    by_cases h : A.length = B.length
    · rw [h]; simp
    · simp [h]; omega
  obtain ⟨t, ht⟩ : ∃ t, t = (decide (1 ≤ A.length) && decide (A.length ≤ 64)) := ⟨_, rfl⟩
  have HCK : Hid (clOk A B = (q && t)) := Lib.hid (by rw [hq, ht]; rfl)
  have HBT := Lib.hid (fun w => between_b 1 (A.length : Int) 64 w)
  rw [show (decide ((1 : Int) ≤ (A.length : Int)) && decide ((A.length : Int) ≤ 64)) = t by
    rw [ht]; congr 1 <;> (apply decide_eq_decide.2; omega)] at HBT
  obtain ⟨C, hC⟩ : ∃ C, C = chk (clOk A B) [A, B] := ⟨_, rfl⟩
  have HC0 : Hid (∀ b, b = (q && t) → chk b [A, B] = C) := Lib.hid (fun b hb => by rw [hC, HCK.out, hb])
  have HCC := Lib.hid hC
  clear hC
  have HQ := Lib.hid hq
  have HT := Lib.hid ht
  have HA := Lib.hid hA
  have HB := Lib.hid hB
  clear hU hV hq ht hA hB lA lB
  go_enter Try.func16, Try.ntmps16
  go_wp2_with fail
  have x1 := (Boxed.new w 25 (.slice aA A.length cA)).alloc (.cells #[.slice aB B.length cB] 25)
  have x2 := Boxed.new (w.alloc (.cells #[.slice aA A.length cA] 25)) 25 (.slice aB B.length cB)
  rw [World.size_alloc] at x2
  have B2 := Lib.hid (((Below.refl w.heap.size w).alloc (Nat.le_refl _) (.cells #[.slice aA A.length cA] 25)).alloc (by simp) (.cells #[.slice aB B.length cB] 25))
  generalize (w.alloc (.cells #[.slice aA A.length cA] 25)).alloc (.cells #[.slice aB B.length cB] 25) = w2 at *
  have HA2 := Lib.hid (HA.out.below B2.out (Nat.le_refl _))
  have HB2 := Lib.hid (HB.out.below B2.out (Nat.le_refl _))
  have X1 := Lib.hid x1
  have X2 := Lib.hid x2
  clear x1 x2
  go_cut [7] (fun c wx => c = .int .i64 C ∧ Hid (Below w2.heap.size w2 wx))
  case first =>
    have k1 := X1.out.cell
    have k2 := X2.out.cell
    have HU : Hid (∀ u, u = w2.drew.alloc (.cells #[.slice aA A.length cA, .slice aB B.length cB] 25) → Below w2.heap.size w2 u ∧ ∀ b, Calls Try.prog 31 #[.bool b, .slice (some ⟨w2.heap.size, 0, none⟩) 2 2] u fun e w' => e = .returned (.int .i64 (chk b [A, B])) ∧ ∃ d, w' = u.drewN d) := Lib.hid (fun u hu => by
      have b1 : Below w2.heap.size w2 u := by rw [hu]; exact (Below.refl w2.heap.size w2).drew.alloc (Nat.le_refl _) _
      refine ⟨b1, fun b => check_any b w2.heap.size 2 2 [A, B] u (rows_two (T := 25) (by rw [hu]; exact heap_alloc_new w2.drew _) (HA2.out.below b1 (Nat.le_refl _)) (HB2.out.below b1 (Nat.le_refl _)) HLA.out HLB.out) (Nat.le_refl _)⟩)
    obtain ⟨hb, hc⟩ := HU.out _ rfl
    have HBU := Lib.hid hb
    have k3 := (hb.cell (p := ⟨w.heap.size, 0, none⟩) X1.out.lt).trans k1
    have k4 := (hb.cell (p := ⟨w.heap.size + 1, 0, none⟩) X2.out.lt).trans k2
    have k5 : ∀ d, ((w2.drew.alloc (.cells #[.slice aA A.length cA, .slice aB B.length cB] 25)).drewN d).cell? ⟨w.heap.size, 0, none⟩ = some (.slice aA A.length cA) := fun d => by rw [World.cell?_drewN]; exact k3
    have k6 : ∀ d, ((w2.drew.alloc (.cells #[.slice aA A.length cA, .slice aB B.length cB] 25)).drewN d).cell? ⟨w.heap.size + 1, 0, none⟩ = some (.slice aB B.length cB) := fun d => by rw [World.cell?_drewN]; exact k4
    have HCH : Hid (∀ b, b = (q && t) → Calls Try.prog 31 #[.bool b, .slice (some ⟨w2.heap.size, 0, none⟩) 2 2] (w2.drew.alloc (.cells #[.slice aA A.length cA, .slice aB B.length cB] 25)) fun e w' => e = .returned (.int .i64 C) ∧ ∃ d, w' = (w2.drew.alloc (.cells #[.slice aA A.length cA, .slice aB B.length cB] 25)).drewN d) := Lib.hid (fun b hb => by
      have h := hc b
      rw [HC0.out b hb] at h
      exact h)
    clear hb hc HU
    cases t
    · have HCH2 := Lib.hid (HCH.out false (by rw [Bool.and_false]))
      have hsz2 : w2.heap.size ≤ w2.drew.heap.size := Nat.le_refl _
      clear k3 k4 k5 k6 HBU
      refine wp_region_noPanic ?_
      refine wp_region_held_drew (S := Below w2.heap.size w2) (by kernel_rfl) (Below.refl w2.heap.size w2).drew (fun h0 => ?_)
      refine wpAnyH_take (i := 0) (v := .int .i64 (A.length : Int)) rfl (by kernel_rfl) (by kernel_rfl) (by kernel_rfl) (fun _ _ _ h => h) (Or.inl ⟨by rfl, fun w' hSw => by go_simp⟩) h0 ?_
      simp only [Act.put]
      refine wpAnyH_take (i := 9) (v := .slice aA A.length cA) rfl (by kernel_rfl) (by kernel_rfl) (by kernel_rfl) (fun _ _ _ h => h) (Or.inl ⟨by rfl, fun w' hSw => by have c0 := (hSw.cell (p := ⟨w.heap.size, 0, none⟩) X1.out.lt).trans k1; have c1 := (hSw.cell (p := ⟨w.heap.size + 1, 0, none⟩) X2.out.lt).trans k2; go_simp⟩) h0 ?_
      simp only [Act.put]
      refine wpAnyH_take (i := 10) (v := .slice aB B.length cB) rfl (by kernel_rfl) (by kernel_rfl) (by kernel_rfl) (fun _ _ _ h => h) (Or.inl ⟨by rfl, fun w' hSw => by have c0 := (hSw.cell (p := ⟨w.heap.size, 0, none⟩) X1.out.lt).trans k1; have c1 := (hSw.cell (p := ⟨w.heap.size + 1, 0, none⟩) X2.out.lt).trans k2; go_simp⟩) h0 ?_
      simp only [Act.put]
      refine wpAnyH_ready (rs := [1,11]) (by kernel_rfl) (by simp) ?_
      refine AllReadyH.cons (o := _) rfl (fun K hK => ?_) (AllReadyH.cons (o := _) rfl (fun K hK => ?_) AllReadyH.nil)
      · rw [if_pos (by rfl)]
        go_simp
        refine (HBT.out _).mono ?_
        rintro e w' ⟨rfl, rfl⟩
        refine hK.out _ _ h0 (fun h1 => ?_)
        clear hK K
        refine wpAnyH_take (i := 2) (v := .bool false) rfl (by kernel_rfl) (by kernel_rfl) (by kernel_rfl) (fun _ _ _ h => h) (Or.inl ⟨by rfl, fun w' hSw => by go_simp⟩) h1 ?_
        refine (show wpAnyH _ _ _ _ _ _ _ (Act.put _ (some 12) _) _ from ?_)
        simp only [Act.put]
        refine wpAnyH_take (i := 3) (v := undef) rfl (by kernel_rfl) (by kernel_rfl) (by kernel_rfl) (fun _ _ _ h => h) (Or.inr ⟨by rfl, rfl⟩) h1 ?_
        refine (show wpAnyH _ _ _ _ _ _ _ (Act.put _ (some 13) _) _ from ?_)
        simp only [Act.put]
        refine wpAnyH_take (i := 4) (v := undef) rfl (by kernel_rfl) (by kernel_rfl) (by kernel_rfl) (fun _ _ _ h => h) (Or.inr ⟨by rfl, rfl⟩) h1 ?_
        refine (show wpAnyH _ _ _ _ _ _ _ (Act.put _ (some 14) _) _ from ?_)
        simp only [Act.put]
        refine wpAnyH_take (i := 5) (v := undef) rfl (by kernel_rfl) (by kernel_rfl) (by kernel_rfl) (fun _ _ _ h => h) (Or.inr ⟨by rfl, rfl⟩) h1 ?_
        refine (show wpAnyH _ _ _ _ _ _ _ (Act.put _ (some 15) _) _ from ?_)
        simp only [Act.put]
        refine wpAnyH_take (i := 6) (v := undef) rfl (by kernel_rfl) (by kernel_rfl) (by kernel_rfl) (fun _ _ _ h => h) (Or.inr ⟨by rfl, rfl⟩) h1 ?_
        refine (show wpAnyH _ _ _ _ _ _ _ (Act.put _ (some 16) _) _ from ?_)
        simp only [Act.put]
        refine wpAnyH_take (i := 7) (v := undef) rfl (by kernel_rfl) (by kernel_rfl) (by kernel_rfl) (fun _ _ _ h => h) (Or.inr ⟨by rfl, rfl⟩) h1 ?_
        refine (show wpAnyH _ _ _ _ _ _ _ (Act.put _ (some 17) _) _ from ?_)
        simp only [Act.put]
        refine wpAnyH_take (i := 8) (v := .bool false) rfl (by kernel_rfl) (by kernel_rfl) (by kernel_rfl) (fun _ _ _ h => h) (Or.inl ⟨by rfl, fun w' hSw => by go_simp⟩) h1 ?_
        refine (show wpAnyH _ _ _ _ _ _ _ (Act.put _ (some 18) _) _ from ?_)
        simp only [Act.put]
        refine wpAnyH_ready (rs := [11]) (by kernel_rfl) (by simp) ?_
        refine AllReadyH.cons (o := _) rfl (fun K hK => ?_) AllReadyH.nil
        rw [if_pos (by rfl)]
        go_simp
        refine hK.out _ _ (h1.alloc hsz2 _) (fun h2 => ?_)
        clear hK K
        refine wpAnyH_ready (rs := [12]) (by kernel_rfl) (by simp) ?_
        refine AllReadyH.cons (o := _) rfl (fun K hK => ?_) AllReadyH.nil
        rw [if_pos (by rfl)]
        go_simp
        refine HCH2.out.mono ?_
        rintro e w' ⟨rfl, d, rfl⟩
        refine hK.out _ _ (below_drewN h2 d) (fun h3 => ?_)
        clear hK K
        refine wpAnyH_take (i := 13) (v := .int .i64 C) rfl (by kernel_rfl) (by kernel_rfl) (by kernel_rfl) (fun _ _ _ h => h) (Or.inl ⟨by rfl, fun w' hSw => by go_simp⟩) h3 ?_
        refine (show wpAnyH _ _ _ _ _ _ _ (Act.put _ (some 7) _) _ from ?_)
        simp only [Act.put]
        refine wpAnyH_done (by kernel_rfl) (NoPanic.normal ?_) _
        go_wp2_with fail
        go_meet
        exact ⟨rfl, Lib.hid h3⟩
      · rw [if_pos (by rfl)]
        go_simp
        refine hK.out _ _ (h0.alloc hsz2 _) (fun h1 => ?_)
        clear hK K
        refine wpAnyH_ready (rs := [1]) (by kernel_rfl) (by simp) ?_
        refine AllReadyH.cons (o := _) rfl (fun K hK => ?_) AllReadyH.nil
        rw [if_pos (by rfl)]
        go_simp
        refine (HBT.out _).mono ?_
        rintro e w' ⟨rfl, rfl⟩
        refine hK.out _ _ h1 (fun h2 => ?_)
        clear hK K
        refine wpAnyH_take (i := 2) (v := .bool false) rfl (by kernel_rfl) (by kernel_rfl) (by kernel_rfl) (fun _ _ _ h => h) (Or.inl ⟨by rfl, fun w' hSw => by go_simp⟩) h2 ?_
        refine (show wpAnyH _ _ _ _ _ _ _ (Act.put _ (some 12) _) _ from ?_)
        simp only [Act.put]
        refine wpAnyH_take (i := 3) (v := undef) rfl (by kernel_rfl) (by kernel_rfl) (by kernel_rfl) (fun _ _ _ h => h) (Or.inr ⟨by rfl, rfl⟩) h2 ?_
        refine (show wpAnyH _ _ _ _ _ _ _ (Act.put _ (some 13) _) _ from ?_)
        simp only [Act.put]
        refine wpAnyH_take (i := 4) (v := undef) rfl (by kernel_rfl) (by kernel_rfl) (by kernel_rfl) (fun _ _ _ h => h) (Or.inr ⟨by rfl, rfl⟩) h2 ?_
        refine (show wpAnyH _ _ _ _ _ _ _ (Act.put _ (some 14) _) _ from ?_)
        simp only [Act.put]
        refine wpAnyH_take (i := 5) (v := undef) rfl (by kernel_rfl) (by kernel_rfl) (by kernel_rfl) (fun _ _ _ h => h) (Or.inr ⟨by rfl, rfl⟩) h2 ?_
        refine (show wpAnyH _ _ _ _ _ _ _ (Act.put _ (some 15) _) _ from ?_)
        simp only [Act.put]
        refine wpAnyH_take (i := 6) (v := undef) rfl (by kernel_rfl) (by kernel_rfl) (by kernel_rfl) (fun _ _ _ h => h) (Or.inr ⟨by rfl, rfl⟩) h2 ?_
        refine (show wpAnyH _ _ _ _ _ _ _ (Act.put _ (some 16) _) _ from ?_)
        simp only [Act.put]
        refine wpAnyH_take (i := 7) (v := undef) rfl (by kernel_rfl) (by kernel_rfl) (by kernel_rfl) (fun _ _ _ h => h) (Or.inr ⟨by rfl, rfl⟩) h2 ?_
        refine (show wpAnyH _ _ _ _ _ _ _ (Act.put _ (some 17) _) _ from ?_)
        simp only [Act.put]
        refine wpAnyH_take (i := 8) (v := .bool false) rfl (by kernel_rfl) (by kernel_rfl) (by kernel_rfl) (fun _ _ _ h => h) (Or.inl ⟨by rfl, fun w' hSw => by go_simp⟩) h2 ?_
        refine (show wpAnyH _ _ _ _ _ _ _ (Act.put _ (some 18) _) _ from ?_)
        simp only [Act.put]
        refine wpAnyH_ready (rs := [12]) (by kernel_rfl) (by simp) ?_
        refine AllReadyH.cons (o := _) rfl (fun K hK => ?_) AllReadyH.nil
        rw [if_pos (by rfl)]
        go_simp
        refine HCH2.out.mono ?_
        rintro e w' ⟨rfl, d, rfl⟩
        refine hK.out _ _ (below_drewN h2 d) (fun h3 => ?_)
        clear hK K
        refine wpAnyH_take (i := 13) (v := .int .i64 C) rfl (by kernel_rfl) (by kernel_rfl) (by kernel_rfl) (fun _ _ _ h => h) (Or.inl ⟨by rfl, fun w' hSw => by go_simp⟩) h3 ?_
        refine (show wpAnyH _ _ _ _ _ _ _ (Act.put _ (some 7) _) _ from ?_)
        simp only [Act.put]
        refine wpAnyH_done (by kernel_rfl) (NoPanic.normal ?_) _
        go_wp2_with fail
        go_meet
        exact ⟨rfl, Lib.hid h3⟩
    · have HCH2 := Lib.hid (HCH.out q (by rw [Bool.and_true]))
      go_region_held3 (fun u => u.cell? ⟨w.heap.size, 0, none⟩ = some (.slice aA A.length cA) ∧ u.cell? ⟨w.heap.size + 1, 0, none⟩ = some (.slice aB B.length cB)) (go_keep)
        (first
          | (go_at_call 42; refine (HBT.out _).mono ?_; rintro e w' ⟨rfl, rfl⟩)
          | (go_at_call 31; refine HCH2.out.mono ?_; rintro e w' ⟨rfl, d, rfl⟩))
      all_goals
        go_wp2_with fail
        go_meet
        exact ⟨rfl, Lib.hid (below_drewN ((Below.refl w2.heap.size w2).alloc (Nat.le_refl _) _) (1 + d))⟩
  case rest =>
    obtain ⟨rfl, B3⟩ := hcut
    have hcode := cl_chk A B
    rw [← HCC.out] at hcode
    by_cases hc0 : C = 0
    · have hfA : A.all fin = true := by
        cases h : A.all fin
        · rw [h, if_pos rfl] at hcode; omega
        · rfl
      have hfB : B.all fin = true := by
        cases h : B.all fin
        · rw [hfA, h, if_neg (by decide), if_pos rfl] at hcode; omega
        · rfl
      have hok : clOk A B = true := by
        cases h : clOk A B
        · rw [hfA, hfB, h, if_neg (by decide), if_neg (by decide), if_pos rfl] at hcode; omega
        · rfl
      have hlen : A.length = B.length ∧ 1 ≤ A.length ∧ A.length ≤ 64 := by
        unfold clOk at hok
        simp only [Bool.and_eq_true, decide_eq_true_eq] at hok
        omega
      have hd : (C != 0) = false := by rw [hc0]; rfl
      have HE1 : Hid (clCode A B = ansC (cor A B)) := Lib.hid (by unfold clCode; rw [hfA, hfB, hok]; rfl)
      have HE2 : Hid (clList A B = ansL (cor A B)) := Lib.hid (by unfold clList; rw [hfA, hfB, hok]; rfl)
      have hB3 := B3.out
      have HBLD := Lib.hid (build_any A.length hlen.2.2 (fun k v => SR (accTo (corF A B k) A.length) v) 43 #[.pointer (some ⟨w.heap.size, 0, none⟩), .pointer (some ⟨w.heap.size + 1, 0, none⟩)] (fun j v => corC_enters _ v) _ (fun k hk W hW => by
        have hBW : Below w2.heap.size w2 W := hB3.trans (hW.mono hB3.size)
        have hB5 : CameF aB A.length B w2 := by rw [hlen.1]; exact HB2.out
        have h := telC_any A.length k hlen.2.1 hlen.2.2 hk A B aA aB cA cB w.heap.size (w.heap.size + 1) W (HA2.out.below hBW (Nat.le_refl _)) (hB5.below hBW (Nat.le_refl _)) hfA hfB
          ((hBW.cell (p := ⟨w.heap.size, 0, none⟩) X1.out.lt).trans X1.out.cell) (by rw [hlen.1]; exact (hBW.cell (p := ⟨w.heap.size + 1, 0, none⟩) X2.out.lt).trans X2.out.cell)
        rw [corC_same A B A.length k hlen.1.symm] at h
        exact h))
      have B4 := Lib.hid (B2.out.trans (hB3.mono B2.out.size))
      clear hcode hfA hfB hok hlen hB3
      go_wp2_with fail
      refine HBLD.out.mono ?_
      rintro e w3 ⟨L, hl, hR, he, hb⟩
      obtain ⟨v, rfl, hO⟩ := told_ans hl hR he
      have HCR : Hid (rowsTo (fun k => accTo (corF A B k) A.length) A.length = cor A B) := Lib.hid rfl
      rw [HCR.out] at hO ⊢
      have HO := Lib.hid hO
      have B5 := Lib.hid (B4.out.trans (hb.mono B4.out.size))
      generalize ansC (cor A B) = c at *
      clear hl hR he hO hb
      go_wp2_with fail
      go_ret2
      exact ⟨_, by rw [HE1.out]; rfl, by rw [HE2.out]; exact HO.out.mono B4.out.size, B5.out⟩
    · have HE1 : Hid (clCode A B = C) := Lib.hid (by
        unfold clCode
        rw [hcode] at hc0 ⊢
        cases h1 : A.all fin
        · rfl
        · cases h2 : B.all fin
          · rfl
          · cases h : clOk A B
            · rfl
            · rw [h1, h2, h] at hc0; exact absurd rfl hc0)
      have HE2 : Hid (clList A B = []) := Lib.hid (by
        unfold clList
        rw [hcode] at hc0
        cases h1 : A.all fin
        · rfl
        · cases h2 : B.all fin
          · rfl
          · cases h : clOk A B
            · rfl
            · rw [h1, h2, h] at hc0; exact absurd rfl hc0)
      have hd : (C != 0) = true := by simpa using hc0
      have B4 := Lib.hid (B2.out.trans (B3.out.mono B2.out.size))
      clear hcode
      go_wp2_with fail
      go_ret2
      exact ⟨_, by rw [HE1.out]; rfl, by rw [HE2.out]; exact OwnF.zero _ _, B4.out⟩

end Go.Proofs.Ytclflnpbiiimiaa
