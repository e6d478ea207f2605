/- The program's IsBalanced: the answer and the code, whatever the list is. Condition: as many numbers as a law lets in. -/
import Derived.Test.YtclflnpbiiimiaaRab
import Derived.Test.YtclflnpbiiimiaaICl
namespace Go.Proofs.Ytclflnpbiiimiaa
open Go Go.RowKit Go.Shelf Ieee

theorem isOther_any : Asks 49 (fun x => !pmOne x) := by
  intro x w
  show Calls _ _ _ _ (fun e w' => e = .returned (.bool (!pmOne x)) ∧ ∃ d, w' = w.drewN d)
  unfold pmOne plusOne minusOne
  obtain ⟨a, ha⟩ : ∃ a, a = (FloatKind.f32.format.order x 1065353216 == some .eq) := ⟨_, rfl⟩
  obtain ⟨b, hb⟩ : ∃ b, b = (FloatKind.f32.format.order x 3212836864 == some .eq) := ⟨_, rfl⟩
  have h1 : (FloatKind.f32.format.order x 1065353216 != some .eq) = !a := by rw [ha]; rfl
  have h2 : (FloatKind.f32.format.order x 3212836864 != some .eq) = !b := by rw [hb]; rfl
  rw [← ha, ← hb]
  clear ha hb
  cases a
  · cases b
    · go_enter Try.func49, Try.ntmps49
      go_wp2
      go_ret
      exact ⟨rfl, 0, rfl⟩
    · go_enter Try.func49, Try.ntmps49
      go_wp2
      go_ret
      exact ⟨rfl, 0, rfl⟩
  · go_enter Try.func49, Try.ntmps49
    go_wp2
    go_ret
    exact ⟨by cases b <;> rfl, 0, rfl⟩

theorem not_pm (L : List Nat) : L.any (fun x => !pmOne x) = !L.all pmOne := by
  induction L with
  | nil => rfl
  | cons x L ih => rw [List.any_cons, List.all_cons, Bool.not_and, ih]

set_option maxRecDepth 100000 in
theorem compact_small (a : Option Addr) (m cc : Nat) (hm : m < 2) (w : World) :
    Calls Try.prog 51 #[.slice a m cc] w fun e w' => e = .returned (.slice a m cc) ∧ w = w' := by
  have hd : decide ((m : Int) < 2) = true := by simp; omega
  go_enter Try.func51, Try.ntmps51
  go_wp2
  go_ret
  exact ⟨rfl, rfl⟩

set_option maxRecDepth 100000 in
set_option maxHeartbeats 1600000 in
theorem implIb (A : List Nat) : BoolF 19 A (ibAns A) (ibCode A) := by
  intro lA u w hU
  have HUU := Lib.hid hU
  obtain ⟨aA, cA, rfl, hA⟩ := hU.came
  have HLA := Lib.hid lA
  obtain ⟨t, ht⟩ : ∃ t, t = ibOk A := ⟨_, rfl⟩
  have HBT := Lib.hid (fun w => between_b 1 (A.length : Int) 64 w)
  rw [show (decide ((1 : Int) ≤ (A.length : Int)) && decide ((A.length : Int) ≤ 64)) = t by
    rw [ht]; unfold ibOk; congr 1 <;> (apply decide_eq_decide.2; omega)] at HBT
  obtain ⟨C, hC⟩ : ∃ C, C = chk t [A] := ⟨_, rfl⟩
  have hcode : C = (if A.all fin = false then 1 else if ibOk A = false then 2 else 0) := by
    rw [hC, ht]
    unfold chk
    simp only [List.all_cons, List.all_nil, Bool.and_true]
    cases A.all fin <;> cases ibOk A <;> rfl
  have HCO := Lib.hid hcode
  have HCC := Lib.hid hC
  have HA := Lib.hid hA
  have HCN := Lib.hid (fun n cap w h hn => containsF_any 49 (fun x => !pmOne x) aA n cap A w h hn (fun x v => by simp [go_sem]) isOther_any)
  clear hU hC ht hA lA hcode
  go_enter Try.func19, Try.ntmps19
  go_wp2_with fail
  refine (HBT.out _).mono ?_
  rintro e w1 ⟨rfl, rfl⟩
  go_wp2_with fail
  have B2 := Lib.hid ((Below.refl w.heap.size w).alloc (Nat.le_refl _) (.cells #[.slice aA A.length cA] 25))
  have HCH : Hid (Calls Try.prog 31 #[.bool t, .slice (some ⟨w.heap.size, 0, none⟩) 1 1] (w.alloc (.cells #[.slice aA A.length cA] 25)) fun e w' => e = .returned (.int .i64 C) ∧ ∃ d, w' = (w.alloc (.cells #[.slice aA A.length cA] 25)).drewN d) := Lib.hid (by
    have h := check_any t w.heap.size 1 1 [A] _ (rows_one (T := 25) (heap_alloc_new w _) (HA.out.below B2.out (Nat.le_refl _)) HLA.out) (by omega)
    rw [← HCC.out] at h
    exact h)
  generalize w.alloc (.cells #[.slice aA A.length cA] 25) = w2 at *
  refine HCH.out.mono ?_
  rintro e w3 ⟨rfl, d, rfl⟩
  have B3 := Lib.hid (below_drewN B2.out d)
  generalize w2.drewN d = w3 at *
  clear B2 HCH
  by_cases hc0 : C = 0
  · have hcode := HCO.out
    have hfA : A.all fin = true := by
      cases h : A.all fin
      · rw [h, if_pos rfl] at hcode; omega
      · rfl
    have hok : ibOk A = true := by
      cases h : ibOk A
      · rw [hfA, h, if_neg (by decide), if_pos rfl] at hcode; omega
      · rfl
    have hlen : 1 ≤ A.length ∧ A.length ≤ 64 := by
      unfold ibOk at hok
      simp only [Bool.and_eq_true, decide_eq_true_eq] at hok
      exact hok
    have hd : (C != 0) = false := by rw [hc0]; rfl
    have HC3 := Lib.hid (HCN.out A.length cA w3 (HA.out.below B3.out (Nat.le_refl _)) HLA.out)
    rw [not_pm] at HC3
    have HN := Lib.hid hlen
    cases hp : A.all pmOne
    · rw [hp] at HC3
      have HE : Hid (ibAns A = false ∧ ibCode A = 0) := Lib.hid ⟨by unfold ibAns; rw [hp]; simp, by unfold ibCode; rw [hfA, hok, hp]; rfl⟩
      clear hcode hfA hok hlen hp
      go_wp2_with fail
      refine HC3.out.mono ?_
      rintro e w4 ⟨rfl, d, rfl⟩
      have B4 := Lib.hid (below_drewN B3.out d)
      generalize w3.drewN d = w4 at *
      go_wp2_with fail
      go_ret2
      exact ⟨by rw [HE.out.1, HE.out.2]; rfl, B4.out⟩
    · rw [hp] at HC3
      obtain ⟨R, hR⟩ := cor_pm A hfA hp hlen.1 hlen.2
      have hclok : clOk A A = true := by unfold clOk; simp; omega
      have hRl : R.length = A.length := rows_len hR
      have hRf : ∀ q, q < R.length → fin (R.getD q 0) = true := fun q hq => row_fin hR q hq
      have HE : Hid (ibAns A = sameTo R R.length ∧ ibCode A = 0) := Lib.hid ⟨by unfold ibAns; rw [hfA, hok, hp, hR]; rfl, by unfold ibCode; rw [hfA, hok, hp, hR]; rfl⟩
      have HE2 : Hid (clList A A = R ∧ clCode A A = 0) := Lib.hid ⟨by unfold clList; rw [hfA, hclok, hR]; rfl, by unfold clCode; rw [hfA, hclok, hR]; rfl⟩
      have HRL := Lib.hid hRl
      have HRF := Lib.hid hRf
      clear hcode hfA hok hp hR hclok hRl hRf
      go_wp2_with fail
      refine HC3.out.mono ?_
      rintro e w4 ⟨rfl, d, rfl⟩
      have B4 := Lib.hid (below_drewN B3.out d)
      generalize w3.drewN d = w4 at *
      have HCL := Lib.hid (implCl A A HLA.out HLA.out _ _ w4 (HUU.out.below B4.out (Nat.le_refl _)) (HUU.out.below B4.out (Nat.le_refl _)))
      rw [HE2.out.1, HE2.out.2] at HCL
      go_wp2_with fail
      refine HCL.out.mono ?_
      rintro e w5 ⟨r, rfl, hO, hb⟩
      have B5 := Lib.hid (B4.out.trans (hb.mono B4.out.size))
      obtain ⟨g, cp, rfl, hg, _⟩ := hO.form (by rw [HRL.out]; omega)
      have hcap := hO.cap.2.1
      have O5 : Hid (OwnF w4.heap.size (.slice (some ⟨g, 0, none⟩) R.length cp) R w5) := Lib.hid hO
      have HG := Lib.hid (Nat.le_trans B4.out.size hg)
      have HGG := Lib.hid hg
      have hsz5 := hb.size
      rw [HRL.out] at hcap O5 ⊢
      clear hO hb hg
      obtain ⟨m, hm⟩ : ∃ m, A.length = m + 1 := ⟨A.length - 1, by have := HN.out; omega⟩
      have HMM := Lib.hid hm
      have hm63 : m ≤ 63 := by have := HN.out; omega
      by_cases h3 : 2 ≤ m
      · have q1 : ¬ cp = 1 := by omega
        have HCMP := Lib.hid (compact_any w4.heap.size g cp A.length m (cp - 1) R w5 O5.out HRL.out hm ⟨h3, hm63⟩ (by omega) HGG.out)
        have HSR : Hid (sameTo R R.length = sameC R m) := Lib.hid (by
          rw [HRL.out, hm]
          exact (same_rel R m h3 (fun q hq => HRF.out q (by rw [HRL.out, hm]; exact hq))).symm)
        rw [hm]
        clear hm
        rw [HMM.out] at hcap
        have HE3 : Hid (ibAns A = sameC R m ∧ ibCode A = 0) := Lib.hid ⟨by rw [HE.out.1, HSR.out], HE.out.2⟩
        have e9 : m + 1 - 1 = m := by omega
        go_wp2_with fail
        refine HCMP.out.mono ?_
        rintro e w6 ⟨len, rfl, hl, hb6⟩
        have B6 := Lib.hid (B5.out.trans ((hb6.mono B4.out.size)))
        have HL := Lib.hid hl
        have hq : decide ((len : Int) ≤ 1) = sameC R m := by rw [← hl]; apply decide_eq_decide.2; omega
        clear hl hb6
        go_wp2_with fail
        go_ret2
        exact ⟨by rw [HE3.out.1, HE3.out.2, ← HL.out]; rfl, B6.out⟩
      · have HSR : Hid (sameTo R R.length = true) := Lib.hid (same_small R _ (by rw [HRL.out, hm]; omega))
        have HE3 : Hid (ibAns A = true ∧ ibCode A = 0) := Lib.hid ⟨by rw [HE.out.1, HSR.out], HE.out.2⟩
        have hq : decide ((m : Int) ≤ 1) = true := by simp; omega
        have hq2 : m ≤ 1 := by omega
        rw [hm]
        clear hm
        rw [HMM.out] at hcap
        go_wp2_with fail
        all_goals
          refine (compact_small _ m _ (by omega) _).mono ?_
          rintro e w6 ⟨rfl, rfl⟩
          go_wp2_with fail
          go_ret2
          exact ⟨by rw [HE3.out.1, HE3.out.2]; rfl, B5.out⟩
  · have HE : Hid (ibAns A = false ∧ ibCode A = C) := Lib.hid (by
      have hcode := HCO.out
      unfold ibAns ibCode
      rw [hcode] at hc0 ⊢
      cases h1 : A.all fin
      · exact ⟨rfl, rfl⟩
      · cases h2 : ibOk A
        · exact ⟨rfl, rfl⟩
        · rw [h1, h2] at hc0; exact absurd rfl hc0)
    have hd : (C != 0) = true := by simpa using hc0
    go_wp2_with fail
    go_ret2
    exact ⟨by rw [HE.out.1, HE.out.2]; rfl, B3.out⟩

end Go.Proofs.Ytclflnpbiiimiaa
