/- What program and model answer to the law of apertures, both at once: lists of numbers and codes. Condition: as many numbers as the law draws. -/
import Derived.Test.YtclflnpbiiimiaaDv
import Derived.Test.YtclflnpbiiimiaaWm
import Derived.Test.YtclflnpbiiimiaaM35
import Derived.Test.YtclflnpbiiimiaaISa
import Derived.Test.YtclflnpbiiimiaaIDc
import Derived.Test.YtclflnpbiiimiaaICl
import Derived.Test.YtclflnpbiiimiaaIIb
import Derived.Test.YtclflnpbiiimiaaKs
import Derived.Test.YtclflnpbiiimiaaKt
namespace Go.Proofs.Ytclflnpbiiimiaa
open Go Go.RowKit Ieee

/-- a list of n numbers and a code, in memory of their own -/
def AnsL (n : Nat) (L : List Nat) (c : Int) (w : World) (e : Ending) (w' : World) : Prop :=
  ∃ a cp, e = .returned (.tuple #[.slice a n cp, .int .i64 c]) ∧ OwnF w.heap.size (.slice a n cp) L w' ∧ Below w.heap.size w w'
theorem OwnF.camed {B : Nat} {a : Option Addr} {n c : Nat} {L : List Nat} {w : World} (h : OwnF B (.slice a n c) L w) : CameF a n L w := by
  obtain ⟨a', c', e, h2⟩ := h.came
  cases e
  exact h2
theorem ansL_of {w : World} {e : Ending} {w' : World} {L : List Nat} {c : Int} (h : ∃ r, e = .returned (.tuple #[r, .int .i64 c]) ∧ OwnF w.heap.size r L w' ∧ Below w.heap.size w w') : AnsL L.length L c w e w' := by
  obtain ⟨r, rfl, o, b⟩ := h
  obtain ⟨a, cp, rfl, _⟩ := o.came
  exact ⟨a, cp, rfl, o, b⟩
/-- numbers, or infinities -/
def AllN (L : List Nat) : Prop := ∀ i, i < L.length → NotNan (L.getD i 0)
theorem rows_get {F : Nat → Option Nat} : ∀ {n : Nat} {R : List Nat}, rowsTo F n = some R → ∀ q, q < n → F q = some (R.getD q 0)
  | 0, R, h, q, hq => by omega
  | n + 1, R, h, q, hq => by
    rw [rowsTo] at h
    cases h1 : rowsTo F n with
    | none => rw [h1, Option.bind_none] at h; cases h
    | some R1 =>
      rw [h1, Option.bind_some] at h
      cases h2 : F n with
      | none => rw [h2, Option.bind_none] at h; cases h
      | some s =>
        rw [h2, Option.bind_some] at h
        cases h
        have hl := rows_len h1
        rw [List.getD_eq_getElem?_getD]
        by_cases h3 : q < n
        · rw [List.getElem?_append_left (by omega), ← List.getD_eq_getElem?_getD]
          exact rows_get h1 q h3
        · obtain rfl : q = n := by omega
          rw [List.getElem?_append_right (by omega), hl, h2]
          simp
theorem ansL_all {F : Nat → Option Nat} {n : Nat} (h : ∀ k, k < n → ∀ s, F k = some s → NotNan s) : AllN (ansL (rowsTo F n)) := by
  unfold ansL
  cases hr : rowsTo F n with
  | none => intro i hi; simp at hi
  | some R =>
    intro i hi
    have hl := rows_len hr
    simp only [Option.getD_some] at hi ⊢
    exact h i (by omega) _ (rows_get hr i (by omega))
theorem alln_nil : AllN [] := fun i hi => by simp at hi
theorem self_eq {L : List Nat} (h : AllN L) : ∀ i, i < L.length → (FloatKind.f32.format.order (L.getD i 0) (L.getD i 0) == some .eq) = true := fun i hi => by
  have := same_notnan _ (h i hi)
  simpa using this

theorem bothLc (p : Int) : ∃ (n : Nat) (L : List Nat) (c : Int), L.length = n ∧ n ≤ 64 ∧ AllN L ∧
    (∀ w, Calls Try.prog 6 #[.int .i64 p] w (AnsL n L c w)) ∧
    (∀ w, Calls Try.prog 7 #[.int .i64 p] w (AnsL n L c w)) ∧
    (c = 0 ∧ (∃ q : Nat, p = q ∧ prI (q : Int) = true ∧ L = legs q) ∨ c = 2 ∧ n = 0) := by
  refine ⟨_, lcList p, lcCode p, rfl, by have := lcList_len p; omega, ?_, fun w => (implLc p w).mono fun e w' h => ansL_of h, fun w => (specLc p w).mono fun e w' h => ansL_of h, ?_⟩
  · cases h : prI p
    · rw [(lc_no h).1]; exact alln_nil
    · rw [(lc_yes h).1]
      intro i hi
      rw [legs_len] at hi
      rw [legs_get _ _ hi]
      exact notnan_fin _ (leg_fin _ _)
  · cases h : prI p
    · exact .inr ⟨(lc_no h).2, by rw [(lc_no h).1]; rfl⟩
    · refine .inl ⟨(lc_yes h).2, p.toNat, ?_, ?_, (lc_yes h).1⟩
      · rcases prI_yes h with rfl | rfl | rfl | rfl | rfl | rfl <;> rfl
      · rcases prI_yes h with rfl | rfl | rfl | rfl | rfl | rfl <;> rfl

theorem sh_alln (A : List Nat) : AllN (shList A) := by
  unfold shList
  split
  · exact ansL_all fun k _ s hs => notnan_fin _ (acc_fin hs)
  · exact alln_nil
theorem dc_alln (A : List Nat) : AllN (dcList A) := by
  unfold dcList
  split
  · rename_i h0
    obtain ⟨hf, hp⟩ := sc_zero h0
    refine ansL_all fun k _ s hs => ?_
    cases h1 : accTo (dcF A k) A.length with
    | none => rw [h1] at hs; cases hs
    | some x =>
      rw [h1] at hs
      cases hs
      obtain ⟨r, hr, hr2⟩ := div_num x (half A.length) (notnan_fin x (acc_fin h1)) (half_any hp).1 (half_any hp).2
      show NotNan ((single.div x (half A.length)).getD 0)
      rw [hr]
      exact hr2
  · exact alln_nil
theorem cl_alln (A B : List Nat) : AllN (clList A B) := by
  unfold clList
  split
  · exact alln_nil
  · split
    · exact alln_nil
    · split
      · exact alln_nil
      · exact ansL_all fun k _ s hs => notnan_fin _ (acc_fin hs)

theorem bothSh (A : List Nat) (hA : A.length ≤ 64) : ∃ (n : Nat) (L : List Nat) (c : Int), L.length = n ∧ n ≤ 64 ∧ AllN L ∧
    (∀ v w, OwnF 0 v A w → Calls Try.prog 10 #[v] w (AnsL n L c w)) ∧
    (∀ v w, OwnF 0 v A w → Calls Try.prog 11 #[v] w (AnsL n L c w)) :=
  ⟨_, shList A, shCode A, rfl, by have := sh_len A; omega, sh_alln A, fun v w h => (implSh A (by omega) v w h).mono fun e w' h => ansL_of h, fun v w h => (specSh A (by omega) v w h).mono fun e w' h => ansL_of h⟩
theorem bothDc (A : List Nat) (hA : A.length ≤ 64) : ∃ (n : Nat) (L : List Nat) (c : Int), L.length = n ∧ n ≤ 64 ∧ AllN L ∧
    (∀ v w, OwnF 0 v A w → Calls Try.prog 13 #[v] w (AnsL n L c w)) ∧
    (∀ v w, OwnF 0 v A w → Calls Try.prog 14 #[v] w (AnsL n L c w)) :=
  ⟨_, dcList A, dcCode A, rfl, by have := dc_len A; omega, dc_alln A, fun v w h => (implDc A (by omega) v w h).mono fun e w' h => ansL_of h, fun v w h => (specDc A (by omega) v w h).mono fun e w' h => ansL_of h⟩
theorem bothCl (A B : List Nat) (hA : A.length ≤ 64) (hB : B.length ≤ 64) : ∃ (n : Nat) (L : List Nat) (c : Int), L.length = n ∧ n ≤ 64 ∧ AllN L ∧
    (∀ u v w, OwnF 0 u A w → OwnF 0 v B w → Calls Try.prog 16 #[u, v] w (AnsL n L c w)) ∧
    (∀ u v w, OwnF 0 u A w → OwnF 0 v B w → Calls Try.prog 17 #[u, v] w (AnsL n L c w)) :=
  ⟨_, clList A B, clCode A B, rfl, by have := cl_len A B; omega, cl_alln A B, fun u v w h1 h2 => (implCl A B (by omega) (by omega) u v w h1 h2).mono fun e w' h => ansL_of h, fun u v w h1 h2 => (specCl A B (by omega) (by omega) u v w h1 h2).mono fun e w' h => ansL_of h⟩
theorem bothIb (A : List Nat) (hA : A.length ≤ 64) : ∃ (b : Bool) (c : Int),
    (∀ v w, OwnF 0 v A w → Calls Try.prog 19 #[v] w fun e w' => e = .returned (.tuple #[.bool b, .int .i64 c]) ∧ Below w.heap.size w w') ∧
    (∀ v w, OwnF 0 v A w → Calls Try.prog 20 #[v] w fun e w' => e = .returned (.tuple #[.bool b, .int .i64 c]) ∧ Below w.heap.size w w') :=
  ⟨ibAns A, ibCode A, fun v w h => implIb A (by omega) v w h, fun v w h => specIb A (by omega) v w h⟩

/-- the law's comparison of an answer with itself -/
theorem same_lists (n : Nat) (L : List Nat) (hl : L.length = n) (hn : n ≤ 64) (h : AllN L) {B1 B2 : Nat} {a1 a2 : Option Addr} {c1 c2 : Nat} {w : World} (h1 : OwnF B1 (.slice a1 n c1) L w) (h2 : OwnF B2 (.slice a2 n c2) L w) :
    Calls Try.prog 8 #[.slice a1 n c1, .slice a2 n c2] w fun e w' => e = .returned (.bool true) ∧ ∃ d, w' = w.drewN d :=
  lists9_yes a1 a2 n c1 c2 L L w h1.camed h2.camed (by omega) (fun i hi => self_eq h i (by omega))
/-- two lists of the same whole numbers are equal -/
theorem whole_lists (n : Nat) (L M : List Nat) (Z : Nat → Int) (hn : n ≤ 64) (hL : ∀ i, i < n → Wh (Z i) (L.getD i 0)) (hM : ∀ i, i < n → Wh (Z i) (M.getD i 0)) {B1 B2 : Nat} {a1 a2 : Option Addr} {c1 c2 : Nat} {w : World} (h1 : OwnF B1 (.slice a1 n c1) L w) (h2 : OwnF B2 (.slice a2 n c2) M w) :
    Calls Try.prog 8 #[.slice a1 n c1, .slice a2 n c2] w fun e w' => e = .returned (.bool true) ∧ ∃ d, w' = w.drewN d :=
  lists9_yes a1 a2 n c1 c2 L M w h1.camed h2.camed (by omega) (fun i hi => wh_eq (hL i hi) (hM i hi))

/-- codes of Legendre are balanced -/
theorem legs_balanced (q : Nat) (hq : prI (q : Int) = true) (v : Value) (w : World) (h : OwnF 0 v (legs q) w) : Calls Try.prog 19 #[v] w fun e w' => e = .returned (.tuple #[.bool true, .int .i64 0]) ∧ Below w.heap.size w w' := by
  have h1 := ib_legs hq
  have h2 := implIb (legs q) (by rw [legs_len]; have := pr_len hq; omega) v w h
  rw [h1.1, h1.2] at h2
  exact h2
/-- shadows are decoded exactly -/
theorem there_home (A : List Nat) (Z : Nat → Int) (q : Nat) (hl : A.length = q) (hq : prI (q : Int) = true) (hZ : Small Z A) : ∃ T R : List Nat, R.length = q ∧ (∀ i, i < q → Wh (Z i) (R.getD i 0)) ∧
    (∀ v w, OwnF 0 v A w → Calls Try.prog 10 #[v] w (AnsL q T 0 w)) ∧
    (∀ v w, OwnF 0 v T w → Calls Try.prog 13 #[v] w (AnsL q R 0 w)) := by
  obtain ⟨h3, h31⟩ := pr_len hq
  subst hl
  obtain ⟨T, R, e1, l1, f1, e2, l2, hR⟩ := dec_sha A Z hq hZ
  have sA : scC A = 0 := by
    have : A.all fin = true := all_of fun i hi => wh_fin (hZ i hi).1
    unfold scC
    rw [if_neg (by rw [this]; decide), if_neg (by rw [hq]; decide)]
  have sT : scC T = 0 := by
    have : T.all fin = true := all_of f1
    unfold scC
    rw [if_neg (by rw [this]; decide), if_neg (by rw [l1, hq]; decide)]
  have a1 : shList A = T ∧ shCode A = 0 := by
    unfold shList shCode
    rw [if_pos sA, if_pos sA, e1]
    exact ⟨rfl, rfl⟩
  have a2 : dcList T = R ∧ dcCode T = 0 := by
    unfold dcList dcCode
    rw [if_pos sT, if_pos sT, e2]
    exact ⟨rfl, rfl⟩
  refine ⟨T, R, l2, hR, fun v w h => ?_, fun v w h => ?_⟩
  · have := implSh A (by omega) v w h
    rw [a1.1, a1.2] at this
    rw [← l1]
    exact this.mono fun e w' h => ansL_of h
  · have := implDc T (by omega) v w h
    rw [a2.1, a2.2] at this
    rw [← l2]
    exact this.mono fun e w' h => ansL_of h
/-- correlations with the first number alone are the lists -/
theorem same_first (A : List Nat) (Z : Nat → Int) (q : Nat) (hl : A.length = q) (h0 : 0 < q) (h64 : q ≤ 64) (hZ : Small Z A) : ∃ R : List Nat, R.length = q ∧ (∀ i, i < q → Wh (Z i) (R.getD i 0)) ∧
    (∀ u v w, OwnF 0 u ((List.replicate q 0).set 0 plusOne) w → OwnF 0 v A w → Calls Try.prog 16 #[u, v] w (AnsL q R 0 w)) := by
  subst hl
  have hFl : ((List.replicate A.length 0).set 0 plusOne).length = A.length := by rw [List.length_set, List.length_replicate]
  have hF : ∀ j, j < A.length → Wh (if j = 0 then 1 else 0) (((List.replicate A.length 0).set 0 plusOne).getD j 0) := fun j hj => by
    rw [List.getD_eq_getElem?_getD, List.getElem?_set]
    by_cases h : j = 0
    · subst h
      rw [if_pos rfl, if_pos rfl, if_pos (by rw [List.length_replicate]; exact h0)]
      exact wh_one
    · rw [if_neg h, if_neg (fun e => h e.symm)]
      simp [hj]
      exact wh_zero
  obtain ⟨R, e1, l1, hR⟩ := cor_first _ A Z h0 h64 hFl hF hZ
  have hAf : A.all fin = true := all_of fun i hi => wh_fin (hZ i hi).1
  have hFf : ((List.replicate A.length 0).set 0 plusOne).all fin = true := all_of fun i hi => wh_fin (hF i (by omega))
  generalize (List.replicate A.length 0).set 0 plusOne = F at *
  have hok : clOk F A = true := by
    unfold clOk
    simp only [Bool.and_eq_true, decide_eq_true_eq]
    omega
  have a1 : clList F A = R ∧ clCode F A = 0 := by
    unfold clList clCode
    rw [if_neg (by rw [hFf]; decide), if_neg (by rw [hAf]; decide), if_neg (by rw [hok]; decide), if_neg (by rw [hFf]; decide), if_neg (by rw [hAf]; decide), if_neg (by rw [hok]; decide), e1]
    exact ⟨rfl, rfl⟩
  refine ⟨R, l1, hR, fun u v w h1 h2 => ?_⟩
  have := implCl F A (by omega) (by omega) u v w h1 h2
  rw [a1.1, a1.2] at this
  rw [← l1]
  exact this.mono fun e w' h => ansL_of h

end Go.Proofs.Ytclflnpbiiimiaa
