/- What the laws do to lists of whole numbers: copy one, compare two, mark one and ask for the marks. Condition: as many numbers as a law lets in. How program and model ask whether a list of whole numbers is a height map, a wrapped one; wrapped heights and their differences. Condition: none, or heights. -/
import Derived.Test.YtjmfffgddmnkmacM4
import Derived.Lib.Hide
import Derived.Deep.Draws
namespace Go.Proofs.Ytjmfffgddmnkmac
open Go Go.RowKit

theorem Below.drewn {B : Nat} {w : World} (d : Nat) : Below B w (w.drewN d) := ⟨rfl, rfl, rfl, Nat.le_refl _, fun _ _ => rfl⟩

theorem Own.came {B : Nat} {v : Value} {L : List Int} {w : World} (h : Own B v L w) : ∃ a c, v = .slice a L.length c ∧ Came a L.length L w := by
  rcases h.kind with ⟨rfl, rfl⟩ | ⟨g, cap, rfl, hb, hg⟩
  · exact ⟨none, 0, rfl, rfl, fun h0 => absurd h0 (by simp)⟩
  · exact ⟨some ⟨g, 0, none⟩, cap, rfl, rfl, fun _ => ⟨g, 0, rfl, hg, fun i hi => by rw [Nat.zero_add]; exact h.cell i hi⟩⟩

/-- the first k of a list, then zeros -/
def pre (L : List Int) (n k : Nat) : List Int := L.take k ++ List.replicate (n - k) 0
theorem pre_len (L : List Int) (n k : Nat) (h : L.length = n) (hk : k ≤ n) : (pre L n k).length = n := by
  unfold pre; rw [List.length_append, List.length_take, List.length_replicate]; omega
theorem pre_set (L : List Int) (n k : Nat) (h : L.length = n) (hk : k < n) : (pre L n k).set k (L.getD k 0) = pre L n (k + 1) := by
  unfold pre
  obtain ⟨m, hm⟩ : ∃ m, n - k = m + 1 := ⟨n - k - 1, by omega⟩
  have hm2 : n - (k + 1) = m := by omega
  rw [hm, hm2, List.replicate_succ, List.set_append_right _ _ (by rw [List.length_take]; omega)]
  have h0 : k - (L.take k).length = 0 := by rw [List.length_take]; omega
  rw [h0, List.set_cons_zero, take_succ_getD L k (by omega)]
  simp
theorem pre_all (L : List Int) (n : Nat) (h : L.length = n) : pre L n n = L := by
  unfold pre
  rw [List.take_of_length_le (by omega), Nat.sub_self]
  simp

/-- the numbers from k on -/
def marks (n : Nat) (k : Int) : List Int := (List.range n).map (fun i => k + (i : Nat))
theorem marks_len (n : Nat) (k : Int) : (marks n k).length = n := by simp [marks]
theorem marks_get (n : Nat) (k : Int) (i : Nat) (h : i < n) : (marks n k).getD i 0 = k + i := by
  simp [marks, List.getD_eq_getElem?_getD, h]

/-- the first k numbers marked -/
def mpre (L : List Int) (k : Nat) : List Int := marks k 1 ++ L.drop k
theorem mpre_len (L : List Int) (k : Nat) (hk : k ≤ L.length) : (mpre L k).length = L.length := by
  unfold mpre; rw [List.length_append, marks_len, List.length_drop]; omega
theorem mpre_set (L : List Int) (k : Nat) (hk : k < L.length) : (mpre L k).set k (1 + (k : Int)) = mpre L (k + 1) := by
  unfold mpre
  rw [List.set_append_right _ _ (by rw [marks_len]; omega), marks_len, Nat.sub_self, List.drop_eq_getElem_cons hk, List.set_cons_zero]
  simp [marks, List.range_succ]
theorem mpre_all (L : List Int) : mpre L L.length = marks L.length 1 := by simp [mpre]

end Go.Proofs.Ytjmfffgddmnkmac

namespace Go.Proofs.Ytjmfffgddmnkmac
open Go Go.RowKit

theorem l01In_b (k a b : Int) (w : World) : Calls Try.prog 57 #[.int .i64 k, .int .i64 a, .int .i64 b] w fun e w' => e = .returned (.bool (decide (a ≤ k) && decide (k ≤ b))) ∧ w = w' := by
  by_cases h1 : a ≤ k
  · by_cases h2 : k ≤ b
    · rw [decide_eq_true h1, decide_eq_true h2]
      go_enter Try.func57, Try.ntmps57
      go_wp2
      go_ret
      exact ⟨rfl, rfl⟩
    · rw [decide_eq_true h1, decide_eq_false h2]
      go_enter Try.func57, Try.ntmps57
      go_wp2
      go_ret
      exact ⟨rfl, rfl⟩
  · rw [decide_eq_false h1, Bool.false_and]
    go_enter Try.func57, Try.ntmps57
    go_wp2
    go_ret
    exact ⟨rfl, rfl⟩

theorem between_b (a k b : Int) (w : World) : Calls Try.prog 44 #[.int .i64 a, .int .i64 k, .int .i64 b] w fun e w' => e = .returned (.bool (decide (a ≤ k) && decide (k ≤ b))) ∧ w = w' := by
  by_cases h1 : a ≤ k
  · by_cases h2 : k ≤ b
    · rw [decide_eq_true h1, decide_eq_true h2]
      go_enter Try.func44, Try.ntmps44
      go_wp2
      go_ret
      exact ⟨rfl, rfl⟩
    · rw [decide_eq_true h1, decide_eq_false h2]
      go_enter Try.func44, Try.ntmps44
      go_wp2
      go_ret
      exact ⟨rfl, rfl⟩
  · rw [decide_eq_false h1, Bool.false_and]
    go_enter Try.func44, Try.ntmps44
    go_wp2
    go_ret
    exact ⟨rfl, rfl⟩

theorem within_b (k : Int) (w : World) : Calls Try.prog 76 #[.int .i64 k, .int .i64 100000] w fun e w' => e = .returned (.bool (isH k)) ∧ w = w' := by
  unfold isH
  by_cases h1 : -100000 ≤ k
  · by_cases h2 : k ≤ 100000
    · rw [decide_eq_true h1, decide_eq_true h2]
      go_enter Try.func76, Try.ntmps76
      go_wp2
      go_ret
      exact ⟨rfl, rfl⟩
    · rw [decide_eq_true h1, decide_eq_false h2]
      go_enter Try.func76, Try.ntmps76
      go_wp2
      go_ret
      exact ⟨rfl, rfl⟩
  · rw [decide_eq_false h1, Bool.false_and]
    go_enter Try.func76, Try.ntmps76
    go_wp2
    go_ret
    exact ⟨rfl, rfl⟩

theorem isHeight_any (k : Int) (w : World) : Calls Try.prog 58 #[.int .i64 k] w fun e w' => e = .returned (.bool (isH k)) ∧ w = w' := by
  go_enter Try.func58, Try.ntmps58
  go_wp2_with fail
  refine (within_b k _).mono ?_
  rintro e w1 ⟨rfl, rfl⟩
  go_wp2_with fail
  go_ret
  exact ⟨rfl, rfl⟩

theorem notH_any (k : Int) (w : World) : Calls Try.prog 67 #[.int .i64 k] w fun e w' => e = .returned (.bool (!isH k)) ∧ w = w' := by
  go_enter Try.func67, Try.ntmps67
  go_wp2_with fail
  refine (isHeight_any k _).mono ?_
  rintro e w1 ⟨rfl, rfl⟩
  go_wp2_with fail
  go_ret
  exact ⟨rfl, rfl⟩

theorem notW_any (k : Int) (w : World) : Calls Try.prog 73 #[.int .i64 k] w fun e w' => e = .returned (.bool (!isW k)) ∧ w = w' := by
  unfold isW
  go_enter Try.func73, Try.ntmps73
  go_wp2_with fail
  refine (between_b 0 k 63 _).mono ?_
  rintro e w1 ⟨rfl, rfl⟩
  go_wp2_with fail
  go_ret
  exact ⟨by rw [Bool.not_and]; rfl, rfl⟩

set_option maxRecDepth 100000 in
set_option maxHeartbeats 800000 in
theorem index_any (f : FuncId) (p : Int → Bool) (a : Option Addr) (n cap : Nat) (L : List Int) (w : World) (h : Came a n L w) (hn : n ≤ 1048576)
    (hE : ∀ (x : Int) (v : World), (callFunc f #[.int .i64 x]).run Try.prog v = .ok (.enter f #[.int .i64 x]) v) (hf : ∀ x w, Calls Try.prog f #[.int .i64 x] w fun e w' => e = .returned (.bool (p x)) ∧ w = w') :
    Calls Try.prog 80 #[.slice a n cap, .func (.func f) #[] #[]] w fun e w' => ∃ r : Int, e = .returned (.int .i64 r) ∧ decide (r ≥ 0) = L.any p ∧ w = w' := by
  have H1 := Lib.hid h
  have HF := Lib.hid hf
  clear h hf
  go_enter Try.func80, Try.ntmps80
  go_wp2
  go_loopw [8] (fun i wr => ∃ k : Nat, k ≤ n ∧ i = .int .i64 k ∧ Hid ((L.take k).any p = false) ∧ wr = w) (fun i _ => n - (intOf i).toNat)
  case atStart => exact ⟨0, by omega, rfl, Lib.hid (by simp), rfl⟩
  case round =>
    obtain ⟨k, hk, rfl, HP, rfl⟩ := hrel
    by_cases hlt : k < n
    · have hdk : decide ((k : Int) < (n : Int)) = true := by simp; omega
      have HL := H1.out.1
      obtain ⟨b1, o1, rfl, hb1, hc1⟩ := H1.out.2 (by omega)
      have p1 := hc1 k hlt
      clear hb1 hc1
      have HP2 := Lib.hid (any_take_succ p L k (by omega))
      have HAL := Lib.hid (any_true_of p L k (by omega))
      clear HL
      generalize L.getD k 0 = x at *
      have HQ : ∃ q, p x = q := ⟨_, rfl⟩
      obtain ⟨q, HQ⟩ := HQ
      have HX := Lib.hid HQ
      have HFX := HF.out x
      rw [HX.out] at HFX
      have HFX := Lib.hid HFX
      clear HQ
      cases q
      · go_wp2_with fail
        refine (HFX.out _).mono ?_
        rintro e w1 ⟨rfl, rfl⟩
        go_wp2
        exact ⟨⟨k + 1, by omega, by go_num, Lib.hid (by rw [HP2.out, HP.out, HX.out]; rfl), by trivial⟩, by simp [intOf]; omega⟩
      · go_wp2_with fail
        refine (HFX.out _).mono ?_
        rintro e w1 ⟨rfl, rfl⟩
        go_wp2
        go_ret
        exact ⟨_, rfl, by rw [HAL.out HX.out]; simp, by trivial⟩
    · obtain rfl : k = n := by omega
      have HL := Lib.hid H1.out.1
      go_wp2
      go_ret
      refine ⟨_, rfl, ?_, by trivial⟩
      have := HP.out
      rw [List.take_of_length_le (by rw [HL.out]; exact Nat.le_refl _)] at this
      rw [this]; rfl

theorem contains_any (f : FuncId) (p : Int → Bool) (a : Option Addr) (n cap : Nat) (L : List Int) (w : World) (h : Came a n L w) (hn : n ≤ 1048576)
    (hE : ∀ (x : Int) (v : World), (callFunc f #[.int .i64 x]).run Try.prog v = .ok (.enter f #[.int .i64 x]) v) (hf : ∀ x w, Calls Try.prog f #[.int .i64 x] w fun e w' => e = .returned (.bool (p x)) ∧ w = w') :
    Calls Try.prog 68 #[.slice a n cap, .func (.func f) #[] #[]] w fun e w' => e = .returned (.bool (L.any p)) ∧ w = w' := by
  have H1 := Lib.hid (index_any f p a n cap L w h hn hE hf)
  clear h hf
  go_enter Try.func68, Try.ntmps68
  go_wp2_with fail
  refine H1.out.mono ?_
  rintro e w1 ⟨r, rfl, hr, rfl⟩
  have HR := Lib.hid hr
  clear hr
  go_wp2_with fail
  go_ret
  exact ⟨by rw [← HR.out]; rfl, by trivial⟩

theorem any_not (p : Int → Bool) (L : List Int) : (!L.any (fun x => !p x)) = L.all p := by
  rw [List.any_eq_not_all_not]; simp

set_option maxRecDepth 100000 in
set_option maxHeartbeats 800000 in
theorem implIs_any (n : Int) (a : Option Addr) (m cap : Nat) (L : List Int) (w : World) (h : Came a m L w) (hn : m ≤ 1048576) :
    Calls Try.prog 37 #[.int .i64 n, .slice a m cap] w fun e w' => e = .returned (.bool (isMap n L)) ∧ w = w' := by
  have HC := Lib.hid (contains_any 67 (fun x => !isH x) a m cap L w h hn (fun x v => by simp [go_sem]) (fun x w => notH_any x w))
  have HA := Lib.hid (any_not isH L)
  have HL := Lib.hid h.1
  clear h
  cases hs : side n
  · have HR : Hid (isMap n L = false) := Lib.hid (by unfold isMap; rw [hs]; rfl)
    have HS := Lib.hid hs
    clear hs
    go_enter Try.func37, Try.ntmps37
    go_wp2_with fail
    refine (isSide_any n _).mono ?_
    rw [HS.out]
    rintro e w1 ⟨rfl, rfl⟩
    go_wp2_with fail
    go_ret
    exact ⟨by rw [HR.out]; rfl, by trivial⟩
  · have HS := Lib.hid hs
    have hw : IntKind.i64.wrap (n * n) = n * n := by rcases side_yes n hs with rfl | rfl | rfl | rfl <;> rfl
    by_cases he : (m : Int) = n * n
    · have he' : ((m : Int) != n * n) = false := by rw [he]; simp
      have HR : Hid (isMap n L = L.all isH) := Lib.hid (by unfold isMap; rw [hs, HL.out, decide_eq_true he]; rfl)
      clear hs he
      go_enter Try.func37, Try.ntmps37
      go_wp2_with fail
      refine (isSide_any n _).mono ?_
      rw [HS.out]
      rintro e w1 ⟨rfl, rfl⟩
      go_wp2_with fail
      refine HC.out.mono ?_
      rintro e w1 ⟨rfl, rfl⟩
      go_wp2_with fail
      go_ret
      exact ⟨by rw [HR.out, ← HA.out]; rfl, by trivial⟩
    · have he' : ((m : Int) != n * n) = true := by simp [he]
      have HR : Hid (isMap n L = false) := Lib.hid (by unfold isMap; rw [hs, HL.out, decide_eq_false he]; rfl)
      clear hs he
      go_enter Try.func37, Try.ntmps37
      go_wp2_with fail
      refine (isSide_any n _).mono ?_
      rw [HS.out]
      rintro e w1 ⟨rfl, rfl⟩
      go_wp2_with fail
      go_ret
      exact ⟨by rw [HR.out]; rfl, by trivial⟩

set_option maxRecDepth 100000 in
set_option maxHeartbeats 800000 in
theorem specIs7_any (n : Int) (a : Option Addr) (m cap : Nat) (L : List Int) (w : World) (h : Came a m L w) (hn : m ≤ 1048576) :
    Calls Try.prog 61 #[.int .i64 n, .slice a m cap] w fun e w' => e = .returned (.bool (isMap n L)) ∧ w = w' := by
  have HL := Lib.hid h.1
  cases hs : side n
  · have HR : Hid (isMap n L = false) := Lib.hid (by unfold isMap; rw [hs]; rfl)
    have HS := Lib.hid hs
    clear hs h
    go_enter Try.func61, Try.ntmps61
    go_wp2_with fail
    refine (l01Side_any n _).mono ?_
    rw [HS.out]
    rintro e w1 ⟨rfl, rfl⟩
    go_wp2_with fail
    go_ret
    exact ⟨by rw [HR.out]; rfl, by trivial⟩
  · have HS := Lib.hid hs
    have hw : IntKind.i64.wrap (n * n) = n * n := by rcases side_yes n hs with rfl | rfl | rfl | rfl <;> rfl
    by_cases he : (m : Int) = n * n
    · have he' : ((m : Int) != n * n) = false := by rw [he]; simp
      have HR : Hid (isMap n L = L.all isH) := Lib.hid (by unfold isMap; rw [hs, HL.out, decide_eq_true he]; rfl)
      have H1 := Lib.hid h
      clear hs he h
      go_enter Try.func61, Try.ntmps61
      go_wp2_with fail
      refine (l01Side_any n _).mono ?_
      rw [HS.out]
      rintro e w1 ⟨rfl, rfl⟩
      go_wp2_with fail
      go_loopw [5] (fun i wr => ∃ k : Nat, k ≤ m ∧ i = .int .i64 k ∧ Hid ((L.take k).all isH = true) ∧ wr = w) (fun i _ => m - (intOf i).toNat)
      case atStart => exact ⟨0, by omega, rfl, Lib.hid (by simp), rfl⟩
      case round =>
        obtain ⟨k, hk, rfl, HP, rfl⟩ := hrel
        by_cases hlt : k < m
        · have hdk : decide ((k : Int) < (m : Int)) = true := by simp; omega
          obtain ⟨b1, o1, rfl, hb1, hc1⟩ := H1.out.2 (by omega)
          have p1 := hc1 k hlt
          clear hb1 hc1
          have HP2 := Lib.hid (all_take_succ isH L k (by rw [HL.out]; exact hlt))
          have HAL := Lib.hid (all_false_of isH L k (by rw [HL.out]; exact hlt))
          generalize L.getD k 0 = x at *
          go_wp2_with fail
          refine (l01In_b x (-100000) 100000 _).mono ?_
          rw [show (decide (-100000 ≤ x) && decide (x ≤ 100000)) = isH x from rfl]
          cases hq : isH x
          · have HX := Lib.hid hq
            clear hq
            rintro e w1 ⟨rfl, rfl⟩
            go_wp2
            go_ret
            exact ⟨by rw [HR.out, HAL.out HX.out]; rfl, by trivial⟩
          · have HX := Lib.hid hq
            clear hq
            rintro e w1 ⟨rfl, rfl⟩
            go_wp2
            exact ⟨⟨k + 1, by omega, by go_num, Lib.hid (by rw [HP2.out, HP.out, HX.out]; rfl), by trivial⟩, by simp [intOf]; omega⟩
        · obtain rfl : k = m := by omega
          go_wp2
          go_ret
          refine ⟨?_, by trivial⟩
          have := HP.out
          rw [List.take_of_length_le (by rw [HL.out]; exact Nat.le_refl _)] at this
          rw [HR.out, this]; rfl
    · have he' : ((m : Int) != n * n) = true := by simp [he]
      have HR : Hid (isMap n L = false) := Lib.hid (by unfold isMap; rw [hs, HL.out, decide_eq_false he]; rfl)
      clear hs he h
      go_enter Try.func61, Try.ntmps61
      go_wp2_with fail
      refine (l01Side_any n _).mono ?_
      rw [HS.out]
      rintro e w1 ⟨rfl, rfl⟩
      go_wp2_with fail
      go_ret
      exact ⟨by rw [HR.out]; rfl, by trivial⟩

end Go.Proofs.Ytjmfffgddmnkmac
