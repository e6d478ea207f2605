/- How program and model ask whether a list of whole numbers is a height map, a wrapped one; wrapped heights and their differences. Condition: none, or heights. -/
import Derived.Test.YtlkgdfednejhiaaHp
import Derived.Test.YtlkgdfednejhiaaOc
import Derived.Lib.Hide
namespace Go.Proofs.Ytlkgdfednejhiaa
open Go Go.RowKit

theorem l01In_b (k a b : Int) (w : World) : Calls Try.prog 69 #[.int .i64 k, .int .i64 a, .int .i64 b] w fun e w' => e = .returned (.bool (decide (a ≤ k) && decide (k ≤ b))) ∧ w = w' := by
  by_cases h1 : a ≤ k
  · by_cases h2 : k ≤ b
    · rw [decide_eq_true h1, decide_eq_true h2]
      go_enter Try.func69, Try.ntmps69
      go_wp2
      go_ret
      exact ⟨rfl, rfl⟩
    · rw [decide_eq_true h1, decide_eq_false h2]
      go_enter Try.func69, Try.ntmps69
      go_wp2
      go_ret
      exact ⟨rfl, rfl⟩
  · rw [decide_eq_false h1, Bool.false_and]
    go_enter Try.func69, Try.ntmps69
    go_wp2
    go_ret
    exact ⟨rfl, rfl⟩

theorem between_b (a k b : Int) (w : World) : Calls Try.prog 56 #[.int .i64 a, .int .i64 k, .int .i64 b] w fun e w' => e = .returned (.bool (decide (a ≤ k) && decide (k ≤ b))) ∧ w = w' := by
  by_cases h1 : a ≤ k
  · by_cases h2 : k ≤ b
    · rw [decide_eq_true h1, decide_eq_true h2]
      go_enter Try.func56, Try.ntmps56
      go_wp2
      go_ret
      exact ⟨rfl, rfl⟩
    · rw [decide_eq_true h1, decide_eq_false h2]
      go_enter Try.func56, Try.ntmps56
      go_wp2
      go_ret
      exact ⟨rfl, rfl⟩
  · rw [decide_eq_false h1, Bool.false_and]
    go_enter Try.func56, Try.ntmps56
    go_wp2
    go_ret
    exact ⟨rfl, rfl⟩

theorem within_b (k : Int) (w : World) : Calls Try.prog 89 #[.int .i64 k, .int .i64 100000] w fun e w' => e = .returned (.bool (isH k)) ∧ w = w' := by
  unfold isH
  by_cases h1 : -100000 ≤ k
  · by_cases h2 : k ≤ 100000
    · rw [decide_eq_true h1, decide_eq_true h2]
      go_enter Try.func89, Try.ntmps89
      go_wp2
      go_ret
      exact ⟨rfl, rfl⟩
    · rw [decide_eq_true h1, decide_eq_false h2]
      go_enter Try.func89, Try.ntmps89
      go_wp2
      go_ret
      exact ⟨rfl, rfl⟩
  · rw [decide_eq_false h1, Bool.false_and]
    go_enter Try.func89, Try.ntmps89
    go_wp2
    go_ret
    exact ⟨rfl, rfl⟩

theorem isHeight_any (k : Int) (w : World) : Calls Try.prog 70 #[.int .i64 k] w fun e w' => e = .returned (.bool (isH k)) ∧ w = w' := by
  go_enter Try.func70, Try.ntmps70
  go_wp2_with fail
  refine (within_b k _).mono ?_
  rintro e w1 ⟨rfl, rfl⟩
  go_wp2_with fail
  go_ret
  exact ⟨rfl, rfl⟩

theorem notH_any (k : Int) (w : World) : Calls Try.prog 75 #[.int .i64 k] w fun e w' => e = .returned (.bool (!isH k)) ∧ w = w' := by
  go_enter Try.func75, Try.ntmps75
  go_wp2_with fail
  refine (isHeight_any k _).mono ?_
  rintro e w1 ⟨rfl, rfl⟩
  go_wp2_with fail
  go_ret
  exact ⟨rfl, rfl⟩

theorem notW_any (k : Int) (w : World) : Calls Try.prog 86 #[.int .i64 k] w fun e w' => e = .returned (.bool (!isW k)) ∧ w = w' := by
  unfold isW
  go_enter Try.func86, Try.ntmps86
  go_wp2_with fail
  refine (between_b 0 k 63 _).mono ?_
  rintro e w1 ⟨rfl, rfl⟩
  go_wp2_with fail
  go_ret
  exact ⟨by rw [Bool.not_and]; rfl, rfl⟩

set_option maxRecDepth 100000 in
set_option maxHeartbeats 800000 in
theorem index_any (f : FuncId) (p : Int → Bool) (a : Option Addr) (n cap : Nat) (L : List Int) (w : World) (h : Came a n L w) (hn : n ≤ 1048576)
    (hE : ∀ (x : Int) (v : World), (callFunc f #[.int .i64 x]).run Try.prog v = .ok (.enter f #[.int .i64 x]) v) (hf : ∀ x w, Calls Try.prog f #[.int .i64 x] w fun e w' => e = .returned (.bool (p x)) ∧ w = w') :
    Calls Try.prog 91 #[.slice a n cap, .func (.func f) #[] #[]] w fun e w' => ∃ r : Int, e = .returned (.int .i64 r) ∧ decide (r ≥ 0) = L.any p ∧ w = w' := by
  have H1 := Lib.hid h
  have HF := Lib.hid hf
  clear h hf
  go_enter Try.func91, Try.ntmps91
  go_wp2
  go_loopw [8] (fun i wr => ∃ k : Nat, k ≤ n ∧ i = .int .i64 k ∧ Hid ((L.take k).any p = false) ∧ wr = w) (fun i _ => n - (intOf i).toNat)
  case atStart => exact ⟨0, by omega, rfl, Lib.hid (by simp), rfl⟩
  case round =>
    obtain ⟨k, hk, rfl, HP, rfl⟩ := hrel
    by_cases hlt : k < n
    · have hdk : decide ((k : Int) < (n : Int)) = true := by simp; omega
      have HL := H1.out.1
      obtain ⟨b1, o1, rfl, hb1, hc1⟩ := H1.out.2 (by omega)
      have p1 := hc1 k hlt
      clear hb1 hc1
      have HP2 := Lib.hid (any_take_succ p L k (by omega))
      have HAL := Lib.hid (any_true_of p L k (by omega))
      clear HL
      generalize L.getD k 0 = x at *
      have HQ : ∃ q, p x = q := ⟨_, rfl⟩
      obtain ⟨q, HQ⟩ := HQ
      have HX := Lib.hid HQ
      have HFX := HF.out x
      rw [HX.out] at HFX
      have HFX := Lib.hid HFX
      clear HQ
      cases q
      · go_wp2_with fail
        refine (HFX.out _).mono ?_
        rintro e w1 ⟨rfl, rfl⟩
        go_wp2
        exact ⟨⟨k + 1, by omega, by go_num, Lib.hid (by rw [HP2.out, HP.out, HX.out]; rfl), by trivial⟩, by simp [intOf]; omega⟩
      · go_wp2_with fail
        refine (HFX.out _).mono ?_
        rintro e w1 ⟨rfl, rfl⟩
        go_wp2
        go_ret
        exact ⟨_, rfl, by rw [HAL.out HX.out]; simp, by trivial⟩
    · obtain rfl : k = n := by omega
      have HL := Lib.hid H1.out.1
      go_wp2
      go_ret
      refine ⟨_, rfl, ?_, by trivial⟩
      have := HP.out
      rw [List.take_of_length_le (by rw [HL.out]; exact Nat.le_refl _)] at this
      rw [this]; rfl

theorem contains_any (f : FuncId) (p : Int → Bool) (a : Option Addr) (n cap : Nat) (L : List Int) (w : World) (h : Came a n L w) (hn : n ≤ 1048576)
    (hE : ∀ (x : Int) (v : World), (callFunc f #[.int .i64 x]).run Try.prog v = .ok (.enter f #[.int .i64 x]) v) (hf : ∀ x w, Calls Try.prog f #[.int .i64 x] w fun e w' => e = .returned (.bool (p x)) ∧ w = w') :
    Calls Try.prog 76 #[.slice a n cap, .func (.func f) #[] #[]] w fun e w' => e = .returned (.bool (L.any p)) ∧ w = w' := by
  have H1 := Lib.hid (index_any f p a n cap L w h hn hE hf)
  clear h hf
  go_enter Try.func76, Try.ntmps76
  go_wp2_with fail
  refine H1.out.mono ?_
  rintro e w1 ⟨r, rfl, hr, rfl⟩
  have HR := Lib.hid hr
  clear hr
  go_wp2_with fail
  go_ret
  exact ⟨by rw [← HR.out]; rfl, by trivial⟩

theorem any_not (p : Int → Bool) (L : List Int) : (!L.any (fun x => !p x)) = L.all p := by
  rw [List.any_eq_not_all_not]; simp

set_option maxRecDepth 100000 in
set_option maxHeartbeats 800000 in
theorem implIs_any (n : Int) (a : Option Addr) (m cap : Nat) (L : List Int) (w : World) (h : Came a m L w) (hn : m ≤ 1048576) :
    Calls Try.prog 33 #[.int .i64 n, .slice a m cap] w fun e w' => e = .returned (.bool (isMap n L)) ∧ w = w' := by
  have HC := Lib.hid (contains_any 75 (fun x => !isH x) a m cap L w h hn (fun x v => by simp [go_sem]) (fun x w => notH_any x w))
  have HA := Lib.hid (any_not isH L)
  have HL := Lib.hid h.1
  clear h
  cases hs : side n
  · have HR : Hid (isMap n L = false) := Lib.hid (by unfold isMap; rw [hs]; rfl)
    have HS := Lib.hid hs
    clear hs
    go_enter Try.func33, Try.ntmps33
    go_wp2_with fail
    refine (isSide_any n _).mono ?_
    rw [HS.out]
    rintro e w1 ⟨rfl, rfl⟩
    go_wp2_with fail
    go_ret
    exact ⟨by rw [HR.out]; rfl, by trivial⟩
  · have HS := Lib.hid hs
    have hw : IntKind.i64.wrap (n * n) = n * n := by rcases side_yes n hs with rfl | rfl | rfl | rfl <;> rfl
    by_cases he : (m : Int) = n * n
    · have he' : ((m : Int) != n * n) = false := by rw [he]; simp
      have HR : Hid (isMap n L = L.all isH) := Lib.hid (by unfold isMap; rw [hs, HL.out, decide_eq_true he]; rfl)
      clear hs he
      go_enter Try.func33, Try.ntmps33
      go_wp2_with fail
      refine (isSide_any n _).mono ?_
      rw [HS.out]
      rintro e w1 ⟨rfl, rfl⟩
      go_wp2_with fail
      refine HC.out.mono ?_
      rintro e w1 ⟨rfl, rfl⟩
      go_wp2_with fail
      go_ret
      exact ⟨by rw [HR.out, ← HA.out]; rfl, by trivial⟩
    · have he' : ((m : Int) != n * n) = true := by simp [he]
      have HR : Hid (isMap n L = false) := Lib.hid (by unfold isMap; rw [hs, HL.out, decide_eq_false he]; rfl)
      clear hs he
      go_enter Try.func33, Try.ntmps33
      go_wp2_with fail
      refine (isSide_any n _).mono ?_
      rw [HS.out]
      rintro e w1 ⟨rfl, rfl⟩
      go_wp2_with fail
      go_ret
      exact ⟨by rw [HR.out]; rfl, by trivial⟩

set_option maxRecDepth 100000 in
set_option maxHeartbeats 800000 in
theorem specIs7_any (n : Int) (a : Option Addr) (m cap : Nat) (L : List Int) (w : World) (h : Came a m L w) (hn : m ≤ 1048576) :
    Calls Try.prog 73 #[.int .i64 n, .slice a m cap] w fun e w' => e = .returned (.bool (isMap n L)) ∧ w = w' := by
  have HL := Lib.hid h.1
  cases hs : side n
  · have HR : Hid (isMap n L = false) := Lib.hid (by unfold isMap; rw [hs]; rfl)
    have HS := Lib.hid hs
    clear hs h
    go_enter Try.func73, Try.ntmps73
    go_wp2_with fail
    refine (l01Side_any n _).mono ?_
    rw [HS.out]
    rintro e w1 ⟨rfl, rfl⟩
    go_wp2_with fail
    go_ret
    exact ⟨by rw [HR.out]; rfl, by trivial⟩
  · have HS := Lib.hid hs
    have hw : IntKind.i64.wrap (n * n) = n * n := by rcases side_yes n hs with rfl | rfl | rfl | rfl <;> rfl
    by_cases he : (m : Int) = n * n
    · have he' : ((m : Int) != n * n) = false := by rw [he]; simp
      have HR : Hid (isMap n L = L.all isH) := Lib.hid (by unfold isMap; rw [hs, HL.out, decide_eq_true he]; rfl)
      have H1 := Lib.hid h
      clear hs he h
      go_enter Try.func73, Try.ntmps73
      go_wp2_with fail
      refine (l01Side_any n _).mono ?_
      rw [HS.out]
      rintro e w1 ⟨rfl, rfl⟩
      go_wp2_with fail
      go_loopw [5] (fun i wr => ∃ k : Nat, k ≤ m ∧ i = .int .i64 k ∧ Hid ((L.take k).all isH = true) ∧ wr = w) (fun i _ => m - (intOf i).toNat)
      case atStart => exact ⟨0, by omega, rfl, Lib.hid (by simp), rfl⟩
      case round =>
        obtain ⟨k, hk, rfl, HP, rfl⟩ := hrel
        by_cases hlt : k < m
        · have hdk : decide ((k : Int) < (m : Int)) = true := by simp; omega
          obtain ⟨b1, o1, rfl, hb1, hc1⟩ := H1.out.2 (by omega)
          have p1 := hc1 k hlt
          clear hb1 hc1
          have HP2 := Lib.hid (all_take_succ isH L k (by rw [HL.out]; exact hlt))
          have HAL := Lib.hid (all_false_of isH L k (by rw [HL.out]; exact hlt))
          generalize L.getD k 0 = x at *
          go_wp2_with fail
          refine (l01In_b x (-100000) 100000 _).mono ?_
          rw [show (decide (-100000 ≤ x) && decide (x ≤ 100000)) = isH x from rfl]
          cases hq : isH x
          · have HX := Lib.hid hq
            clear hq
            rintro e w1 ⟨rfl, rfl⟩
            go_wp2
            go_ret
            exact ⟨by rw [HR.out, HAL.out HX.out]; rfl, by trivial⟩
          · have HX := Lib.hid hq
            clear hq
            rintro e w1 ⟨rfl, rfl⟩
            go_wp2
            exact ⟨⟨k + 1, by omega, by go_num, Lib.hid (by rw [HP2.out, HP.out, HX.out]; rfl), by trivial⟩, by simp [intOf]; omega⟩
        · obtain rfl : k = m := by omega
          go_wp2
          go_ret
          refine ⟨?_, by trivial⟩
          have := HP.out
          rw [List.take_of_length_le (by rw [HL.out]; exact Nat.le_refl _)] at this
          rw [HR.out, this]; rfl
    · have he' : ((m : Int) != n * n) = true := by simp [he]
      have HR : Hid (isMap n L = false) := Lib.hid (by unfold isMap; rw [hs, HL.out, decide_eq_false he]; rfl)
      clear hs he h
      go_enter Try.func73, Try.ntmps73
      go_wp2_with fail
      refine (l01Side_any n _).mono ?_
      rw [HS.out]
      rintro e w1 ⟨rfl, rfl⟩
      go_wp2_with fail
      go_ret
      exact ⟨by rw [HR.out]; rfl, by trivial⟩

end Go.Proofs.Ytlkgdfednejhiaa
