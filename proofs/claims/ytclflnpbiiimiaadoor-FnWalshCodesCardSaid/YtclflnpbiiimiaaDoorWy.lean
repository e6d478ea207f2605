/- What program and model answer to the law of codes of Walsh, both at once; sums by codes there and back, and measured pictures. Condition: as many numbers as the law draws. -/
import Derived.Test.YtclflnpbiiimiaaDoorM42
import Derived.Test.YtclflnpbiiimiaaDoorWx
import Derived.Test.YtclflnpbiiimiaaDoorDz
import Derived.Test.YtclflnpbiiimiaaDoorM26
import Derived.Test.YtclflnpbiiimiaaDoorM5
import Derived.Test.YtclflnpbiiimiaaDoorM32
import Derived.Test.YtclflnpbiiimiaaDoorM33
import Derived.Test.YtclflnpbiiimiaaDoorICw
import Derived.Test.YtclflnpbiiimiaaDoorISp
import Derived.Test.YtclflnpbiiimiaaDoorIPc
namespace Go.Proofs.YtclflnpbiiimiaaDoor
open Go Go.RowKit Ieee

theorem lenI_pow {n : Int} (h : lenI n = true) : ∃ t : Nat, t ≤ 6 ∧ n = ((2 ^ t : Nat) : Int) := by
  rcases lenI_yes h with rfl | rfl | rfl | rfl | rfl | rfl | rfl
  · exact ⟨0, by omega, rfl⟩
  · exact ⟨1, by omega, rfl⟩
  · exact ⟨2, by omega, rfl⟩
  · exact ⟨3, by omega, rfl⟩
  · exact ⟨4, by omega, rfl⟩
  · exact ⟨5, by omega, rfl⟩
  · exact ⟨6, by omega, rfl⟩
theorem walsh_alln (n k : Nat) : AllN (walsh n k) := fun i hi => by
  rw [walsh_len] at hi
  rw [walsh, List.getD_eq_getElem?_getD, List.getElem?_map, List.getElem?_range hi]
  exact notnan_fin _ (sg_fin _)
theorem bothWc (n k : Int) : ∃ (m : Nat) (L : List Nat) (c : Int), L.length = m ∧ m ≤ 64 ∧ AllN L ∧
    (∀ w, Calls Tryd.prog 7 #[.int .i64 n, .int .i64 k] w (AnsL m L c w)) ∧
    (∀ w, Calls Tryd.prog 8 #[.int .i64 n, .int .i64 k] w (AnsL m L c w)) ∧
    (c = 0 ∧ (∃ t q : Nat, t ≤ 6 ∧ q < 2 ^ t ∧ n = ((2 ^ t : Nat) : Int) ∧ k = (q : Int) ∧ L = walsh (2 ^ t) q) ∨ c = 2) := by
  refine ⟨_, wcList n k, wcCode n k, rfl, wcList_len n k, ?_, fun w => (implWc n k w).mono fun e w' h => ansL_of h, fun w => (specWc n k w).mono fun e w' h => ansL_of h, ?_⟩
  · cases h : wcOk n k
    · rw [(wc_no h).1]; exact alln_nil
    · rw [(wc_yes h).1]; exact walsh_alln _ _
  · cases h : wcOk n k
    · exact .inr (wc_no h).2
    · have h2 := h
      unfold wcOk at h2
      simp only [Bool.and_eq_true, decide_eq_true_eq] at h2
      obtain ⟨t, ht, rfl⟩ := lenI_pow h2.1.1
      refine .inl ⟨(wc_yes h).2, t, k.toNat, ht, by omega, rfl, by omega, ?_⟩
      rw [(wc_yes h).1, Int.toNat_natCast]

theorem sb_alln (A : List Nat) : AllN (sbList A) ∧ AllN (bkList A) := by
  cases hf : A.all fin
  · rw [(sb_nan hf).2.1, (sb_nan hf).2.2]; exact ⟨alln_nil, alln_nil⟩
  · cases hl : lenI (A.length : Int)
    · rw [(sb_len hf hl).2.1, (sb_len hf hl).2.2]; exact ⟨alln_nil, alln_nil⟩
    · cases ho : okRnd A (lg A.length)
      · rw [(sb_lim hf hl ho).2.1, (sb_lim hf hl ho).2.2]; exact ⟨alln_nil, alln_nil⟩
      · obtain ⟨_, e2, e3⟩ := sb_yes hf hl ho
        have h1 : ∀ i, i < (rnds A (lg A.length)).length → fin ((rnds A (lg A.length)).getD i 0) = true := fun i hi => all_at (okRnd_last ho) i hi
        rw [e2, e3]
        refine ⟨fun i hi => notnan_fin _ (h1 i hi), fun i hi => ?_⟩
        rw [List.length_map] at hi
        have e : ((rnds A (lg A.length)).map (fun x => divS x (fl32 A.length))).getD i 0 = divS ((rnds A (lg A.length)).getD i 0) (fl32 A.length) := by
          rw [List.getD_eq_getElem?_getD, List.getElem?_map, List.getElem?_eq_getElem hi, List.getD_eq_getElem?_getD, List.getElem?_eq_getElem hi]
          rfl
        rw [e]
        obtain ⟨r, hr, hn⟩ := div_num ((rnds A (lg A.length)).getD i 0) (fl32 A.length) (notnan_fin _ (h1 i hi)) (fl32_any hl).1 (fl32_any hl).2
        unfold divS
        rw [hr]
        exact hn
theorem bothSb (A : List Nat) (hA : A.length ≤ 64) : ∃ (n : Nat) (L : List Nat) (c : Int), L.length = n ∧ n ≤ 64 ∧ AllN L ∧
    (∀ v w, OwnF 0 v A w → Calls Tryd.prog 11 #[v] w (AnsL n L c w)) ∧
    (∀ v w, OwnF 0 v A w → Calls Tryd.prog 12 #[v] w (AnsL n L c w)) :=
  ⟨_, sbList A, sbCode A, rfl, by have := (sb_small A).1; omega, (sb_alln A).1, fun v w h => (implSb A (by omega) v w h).mono fun e w' h => ansL_of h, fun v w h => (specSb A (by omega) v w h).mono fun e w' h => ansL_of h⟩
theorem bothBk (A : List Nat) (hA : A.length ≤ 64) : ∃ (n : Nat) (L : List Nat) (c : Int), L.length = n ∧ n ≤ 64 ∧ AllN L ∧
    (∀ v w, OwnF 0 v A w → Calls Tryd.prog 14 #[v] w (AnsL n L c w)) ∧
    (∀ v w, OwnF 0 v A w → Calls Tryd.prog 15 #[v] w (AnsL n L c w)) :=
  ⟨_, bkList A, sbCode A, rfl, by have := (sb_small A).2; omega, (sb_alln A).2, fun v w h => (implBk A (by omega) v w h).mono fun e w' h => ansL_of h, fun v w h => (specBk A (by omega) v w h).mono fun e w' h => ansL_of h⟩
theorem bothCw (n k : Int) : ∃ (s : Int) (D : Array Value) (c : Int), FinW s D ∧
    (∀ w, Calls Tryd.prog 17 #[.int .i64 n, .int .i64 k] w fun e w' => e = .returned (.tuple #[.agg D, .int .i64 c]) ∧ Below w.heap.size w w') ∧
    (∀ w, Calls Tryd.prog 18 #[.int .i64 n, .int .i64 k] w fun e w' => e = .returned (.tuple #[.agg D, .int .i64 c]) ∧ Below w.heap.size w w') ∧
    (c = 0 ∧ (∃ (N t q : Nat), N = 2 ^ t ∧ t ≤ 6 ∧ q < N ∧ IntKind.i64.wrap (n * n) = (N : Int) ∧ k = (q : Int) ∧ ∀ i, i < N → D[1 + i]? = some (.complex .f32 (wal q i) 0)) ∨ c = 2) := by
  refine ⟨cwS n k, _, cwC n k, finW_of _ _ (cwZ_cells n k), implCw n k, specCw n k, ?_⟩
  cases h : cwOk n k
  · exact .inr (cw_no h).2.2
  · obtain ⟨e1, e2, e3⟩ := cw_yes h
    have h2 := h
    unfold cwOk at h2
    simp only [Bool.and_eq_true, decide_eq_true_eq] at h2
    obtain ⟨s, rfl⟩ : ∃ s : Nat, n = s := ⟨n.toNat, by rcases side_yes _ h2.1 with e | e | e | e <;> omega⟩
    obtain ⟨q, rfl⟩ : ∃ q : Nat, k = q := ⟨k.toNat, by omega⟩
    have hsq : (s : Int) * s = ((s * s : Nat) : Int) := by rw [Int.natCast_mul]
    have hle := sq_le2 s h2.1
    have hq : q < s * s := by have := h2.2.2; omega
    refine .inl ⟨e3, s * s, ?_⟩
    have hg : ∀ i, i < s * s → (pic (cwS s q) (cwZ s q))[1 + i]? = some (.complex .f32 (wal q i) 0) := fun i hi => by
      rw [e2, Nat.add_comm, pic_succ, Int.toNat_natCast, Int.toNat_natCast, gf_get, if_pos (by omega), if_pos hi]
      rfl
    have hw : IntKind.i64.wrap ((s : Int) * s) = ((s * s : Nat) : Int) := (IntWalk.i64_in _ (by omega)).trans hsq
    rcases side_yes _ h2.1 with e | e | e | e
    · obtain rfl : s = 1 := by omega
      exact ⟨0, q, rfl, by omega, hq, hw, rfl, hg⟩
    · obtain rfl : s = 2 := by omega
      exact ⟨2, q, rfl, by omega, hq, hw, rfl, hg⟩
    · obtain rfl : s = 4 := by omega
      exact ⟨4, q, rfl, by omega, hq, hw, rfl, hg⟩
    · obtain rfl : s = 8 := by omega
      exact ⟨6, q, rfl, by omega, hq, hw, rfl, hg⟩
theorem spV_notnan (s : Int) (zs : Array Value) (k : Int) : NotNan (spV s zs k) := by
  have h0 : NotNan 0 := notnan_fin 0 (by decide)
  unfold spV
  split
  · exact h0
  · split
    · exact h0
    · cases h : spAcc s zs k with
      | none => exact h0
      | some x => exact notnan_fin x (acc_fin h)
theorem bothSp (n : Int) (F : Nat → Nat) (M : Nat) (k : Int) : ∃ (v : Nat) (c : Int), NotNan v ∧
    (∀ w, Calls Tryd.prog 20 #[.agg (pic n (gl F M)), .int .i64 k] w fun e w' => e = .returned (.tuple #[.float .f32 v, .int .i64 c]) ∧ Below w.heap.size w w') ∧
    (∀ w, Calls Tryd.prog 21 #[.agg (pic n (gl F M)), .int .i64 k] w fun e w' => e = .returned (.tuple #[.float .f32 v, .int .i64 c]) ∧ Below w.heap.size w w') :=
  ⟨_, _, spV_notnan n (gl F M) k, implSp n (gl F M) (gl_floats F M) k, specSp n (gl F M) (gl_floats F M) k⟩
theorem bothPc (n : Int) (A : List Nat) (hA : A.length ≤ 64) : ∃ (s : Int) (zs : Array Value) (c : Int), Nums zs ∧
    (∀ v w, OwnF 0 v A w → Calls Tryd.prog 23 #[.int .i64 n, v] w fun e w' => e = .returned (.tuple #[.agg (pic s zs), .int .i64 c]) ∧ Below w.heap.size w w') ∧
    (∀ v w, OwnF 0 v A w → Calls Tryd.prog 24 #[.int .i64 n, v] w fun e w' => e = .returned (.tuple #[.agg (pic s zs), .int .i64 c]) ∧ Below w.heap.size w w') :=
  ⟨pcS n A, pcZ n A, pcC n A, pcZ_nums n A, fun v w h => implPc n A (by omega) v w h, fun v w h => specPc n A (by omega) v w h⟩

/-- the code's numbers are whole -/
theorem wal_wh (q j : Nat) : Wh (zg (q &&& j)) (wal q j) := by
  unfold wal zg sg
  cases par (q &&& j)
  · exact wh_one
  · exact wh_minus
theorem walsh_whl (n q : Nat) : WhL (fun j => zg (q &&& j)) n (walsh n q) := ⟨walsh_len n q, fun j hj => by
  rw [walsh, List.getD_eq_getElem?_getD, List.getElem?_map, List.getElem?_range hj]
  exact wal_wh q j⟩
theorem pow_six {t : Nat} (h : t ≤ 6) : 2 ^ t ≤ 64 := by
  have : 2 ^ t ≤ 2 ^ 6 := Nat.pow_le_pow_right (by omega) h
  have e : (2 : Nat) ^ 6 = 64 := by decide
  omega
/-- the sums by codes of a code -/
theorem walsh_sums (t q : Nat) (ht : t ≤ 6) (hq : q < 2 ^ t) : ∃ R : List Nat, (∀ i, i < 2 ^ t → Wh (if i = q then ((2 ^ t : Nat) : Int) else 0) (R.getD i 0)) ∧
    (∀ v w, OwnF 0 v (walsh (2 ^ t) q) w → Calls Tryd.prog 11 #[v] w (AnsL (2 ^ t) R 0 w)) := by
  have h6 := pow_six ht
  obtain ⟨e1, e2, _⟩ := sb_wh _ t 1 (walsh (2 ^ t) q) ht (walsh_whl _ q) (fun j _ => zg_abs _) (by omega)
  refine ⟨sbList (walsh (2 ^ t) q), fun i hi => ?_, fun v w h => ?_⟩
  · have h2 := e2.2 i hi
    have h3 : had (fun j => zg (q &&& j)) (2 ^ t) i = if i = q then ((2 ^ t : Nat) : Int) else 0 := by
      rw [← orth t ht i q hi hq]
      exact zsum_congr _ fun j _ => by
        show zg (j &&& i) * zg (q &&& j) = _
        rw [Nat.and_comm q j]
    rw [← h3]
    exact h2
  · have := implSb (walsh (2 ^ t) q) (by rw [walsh_len]; omega) v w h
    rw [e1] at this
    have := this.mono fun e w' h => ansL_of h
    rw [e2.1] at this
    exact this
theorem had_small (Z : Nat → Int) (L : List Nat) (n : Nat) (hl : L.length = n) (h : Small Z L) : WhL Z n L := ⟨hl, fun q hq => (h q (by omega)).1⟩
/-- sums by codes and back -/
theorem sums_home (A : List Nat) (Z : Nat → Int) (t : Nat) (ht : t ≤ 6) (hl : A.length = 2 ^ t) (hZ : Small Z A) : ∃ T R : List Nat, (∀ i, i < 2 ^ t → Wh (Z i) (R.getD i 0)) ∧
    (∀ v w, OwnF 0 v A w → Calls Tryd.prog 11 #[v] w (AnsL (2 ^ t) T 0 w)) ∧
    (∀ v w, OwnF 0 v T w → Calls Tryd.prog 14 #[v] w (AnsL (2 ^ t) R 0 w)) := by
  have h6 := pow_six ht
  have hb : ∀ q, q < 2 ^ t → (Z q).natAbs ≤ 10 := fun q hq => (hZ q (by omega)).2
  have hm : 2 ^ t * (2 ^ t * 10) < 16777216 := by
    have : 2 ^ t * (2 ^ t * 10) ≤ 64 * (64 * 10) := Nat.mul_le_mul h6 (Nat.mul_le_mul_right _ h6)
    omega
  obtain ⟨e1, e2, _⟩ := sb_wh Z t 10 A ht (had_small Z A _ hl hZ) hb (by omega)
  obtain ⟨g1, g2⟩ := bk_wh Z t 10 (sbList A) ht e2 hb hm (by omega)
  refine ⟨sbList A, bkList (sbList A), g2.2, fun v w h => ?_, fun v w h => ?_⟩
  · have := implSb A (by omega) v w h
    rw [e1] at this
    have := this.mono fun e w' h => ansL_of h
    rw [e2.1] at this
    exact this
  · have := implBk (sbList A) (by rw [e2.1]; omega) v w h
    rw [g1] at this
    have := this.mono fun e w' h => ansL_of h
    rw [g2.1] at this
    exact this

/-- how whole numbers stand to each other -/
theorem wh_order {a b : Int} {x y : Nat} (hx : Wh a x) (hy : Wh b y) : ordF x y = some (compare a b) := by
  obtain ⟨s, m, i, hr, hi, hs⟩ := hx
  obtain ⟨t, n, j, hq, hj, ht⟩ := hy
  have h0 : ordF x y = some (compare (signed s m (i - min i j).toNat) (signed t n (j - min i j).toNat)) := by
    rw [ordF_read, hr, hq]
    rfl
  have h1 := signed_shift s m i (min i j) 149 (by omega) (by omega)
  have h2 := signed_shift t n j (min i j) 149 (by omega) (by omega)
  rw [show (i + ((149 : Nat) : Int)).toNat = (i + 149).toNat from rfl, hs] at h1
  rw [show (j + ((149 : Nat) : Int)).toNat = (j + 149).toNat from rfl, ht] at h2
  have hK : (0 : Int) < ((2 ^ (min i j + ((149 : Nat) : Int)).toNat : Nat) : Int) := by have := Nat.two_pow_pos (min i j + ((149 : Nat) : Int)).toNat; omega
  have hP : (0 : Int) < ((2 ^ 149 : Nat) : Int) := by have := Nat.two_pow_pos 149; omega
  rw [h0]
  generalize signed s m (i - min i j).toNat = u at *
  generalize signed t n (j - min i j).toNat = v at *
  generalize ((2 ^ (min i j + ((149 : Nat) : Int)).toNat : Nat) : Int) = K at *
  generalize ((2 ^ 149 : Nat) : Int) = P at *
  congr 1
  rcases Int.lt_trichotomy a b with h | h | h
  · have h3 : a * P < b * P := Int.mul_lt_mul_of_pos_right h hP
    rw [← h1, ← h2] at h3
    have h4 : u < v := Int.lt_of_mul_lt_mul_right h3 (by omega)
    rw [Int.compare_eq_lt.2 h, Int.compare_eq_lt.2 h4]
  · subst h
    have h4 : u = v := Int.eq_of_mul_eq_mul_right (a := K) (by omega) (h1.trans h2.symm)
    rw [h4, Int.compare_eq_eq.2 rfl, Int.compare_eq_eq.2 rfl]
  · have h3 : b * P < a * P := Int.mul_lt_mul_of_pos_right h hP
    rw [← h1, ← h2] at h3
    have h4 : v < u := Int.lt_of_mul_lt_mul_right h3 (by omega)
    rw [Int.compare_eq_gt.2 h, Int.compare_eq_gt.2 h4]
theorem wh_max {a : Int} {x : Nat} (hx : Wh a x) (h : 0 ≤ a) : Wh a (mx2 x 0) := by
  have ho := wh_order hx wh_zero
  unfold mx2
  rw [ho]
  rcases Int.lt_trichotomy a 0 with h1 | h1 | h1
  · omega
  · subst h1
    rw [Int.compare_eq_eq.2 rfl]
    dsimp only
    split
    · exact wh_zero
    · exact hx
  · rw [Int.compare_eq_gt.2 h1]
    exact hx

/-- levels that are small whole numbers, none below 0 -/
def Lev (Z : Nat → Int) (F : Nat → Nat) (n : Nat) : Prop := ∀ i, i < n → Wh (Z i) (F i) ∧ 0 ≤ Z i ∧ Z i ≤ 8
theorem lev_bits (F : Nat → Nat) (n i : Nat) (hi : i < 64) : bitsAt (gl F n) i = glv F n i := bitsAt_of _ _ _ (glv_get F n i hi)
theorem lev_shown (s : Nat) (Z : Nat → Int) (F : Nat → Nat) (hs : side (s : Int) = true) (h : Lev Z F (s * s)) : shown s (gl F (s * s)) = true := by
  have hle := sq_le2 s hs
  unfold shown
  rw [hs, Bool.true_and, ← Int.natCast_mul, Int.toNat_natCast]
  have key : ∀ m, m ≤ 64 → okTo (s * s) (gl F (s * s)) m = true := by
    intro m
    induction m with
    | zero => intro _; rfl
    | succ m ih =>
      intro hm
      rw [okTo, ih (by omega), Bool.true_and, lev_bits F _ m (by omega)]
      unfold okCell glv
      by_cases hk : m < s * s
      · rw [if_pos hk]
        obtain ⟨h1, h2, h3⟩ := h m hk
        have ho : FloatKind.f32.format.order (F m) 0 = some (compare (Z m) 0) := wh_order h1 wh_zero
        have hl : ltz (F m) = false := by
          unfold ltz
          rw [ho]
          rcases Int.lt_trichotomy (Z m) 0 with h4 | h4 | h4
          · omega
          · rw [Int.compare_eq_eq.2 h4]; rfl
          · rw [Int.compare_eq_gt.2 h4]; rfl
        rw [wh_fin h1, hl, decide_eq_true hk]
        rfl
      · rw [if_neg hk, decide_eq_false hk]
        decide
  exact key 64 (Nat.le_refl _)
/-- the sum of such a picture by a code -/
theorem lev_sum (s t k : Nat) (Z : Nat → Int) (F : Nat → Nat) (hs : side (s : Int) = true) (ht : s * s = 2 ^ t) (h : Lev Z F (s * s)) (hk : k < s * s) : ∃ v, Wh (had Z (2 ^ t) k) v ∧
    (∀ w, Calls Tryd.prog 20 #[.agg (pic s (gl F (s * s))), .int .i64 (k : Int)] w fun e w' => e = .returned (.tuple #[.float .f32 v, .int .i64 0]) ∧ Below w.heap.size w w') := by
  have hle := sq_le2 s hs
  have hsh := lev_shown s Z F hs h
  have hok : spOk s k = true := by
    unfold spOk
    simp only [Bool.and_eq_true, decide_eq_true_eq]
    rw [← Int.natCast_mul]
    omega
  obtain ⟨v, h1, h2⟩ := acc_wh (f := spF (gl F (s * s)) k) (F := fun j => Z j * zg (k &&& j)) 8 (s * s) (fun j hj => by
    unfold spF
    rw [lev_bits F _ j (by omega)]
    unfold glv
    rw [if_pos hj]
    obtain ⟨a1, a2, a3⟩ := h j hj
    have hb := abs_mul_le (m := 8) (a := Z j) (by omega) (zg_abs (k &&& j))
    exact (wh_mul a1 (wal_wh k j) (by omega)).2) (fun j hj => by
    obtain ⟨a1, a2, a3⟩ := h j hj
    exact abs_mul_le (by omega) (zg_abs _)) (by omega)
  have hacc : spAcc s (gl F (s * s)) k = some v := by
    unfold spAcc
    rw [Int.toNat_natCast, ← Int.natCast_mul, Int.toNat_natCast]
    exact h1
  have e1 : spV s (gl F (s * s)) k = v := by
    unfold spV
    rw [if_neg (by rw [hsh]; decide), if_neg (by rw [hok]; decide), hacc]
    rfl
  have e2 : spC s (gl F (s * s)) k = 0 := by
    unfold spC
    rw [if_neg (by rw [hsh]; decide), if_neg (by rw [hok]; decide), hacc]
    rfl
  refine ⟨v, ?_, ?_⟩
  · have : zsum (fun j => Z j * zg (k &&& j)) (s * s) = had Z (2 ^ t) k := by
      rw [ht]
      exact zsum_congr _ fun j _ => by rw [Nat.and_comm k j, Int.mul_comm]
    rw [← this]
    exact h2
  · have := implSp s (gl F (s * s)) (gl_floats _ _) k
    rw [e1, e2] at this
    exact this
/-- a picture that was measured by all codes is found again -/
theorem lev_found (s t : Nat) (Z : Nat → Int) (F : Nat → Nat) (L : List Nat) (hs : side (s : Int) = true) (ht : s * s = 2 ^ t) (h6 : t ≤ 6) (h : Lev Z F (s * s)) (hL : WhL (had Z (2 ^ t)) (2 ^ t) L) : ∃ zs : Array Value,
    (∀ v w, OwnF 0 v L w → Calls Tryd.prog 23 #[.int .i64 (s : Int), v] w fun e w' => e = .returned (.tuple #[.agg (pic s zs), .int .i64 0]) ∧ Below w.heap.size w w') ∧
    zs.size = 64 ∧ zs.all (·.oneCell') = true ∧ (∀ w, (binOp .eql 41 (.agg (pic s zs)) (.agg (pic s (gl F (s * s))))).run Tryd.prog w = .ok (.bool true) w) := by
  have hle := sq_le2 s hs
  have h64 := pow_six h6
  have hb : ∀ q, q < 2 ^ t → (Z q).natAbs ≤ 8 := fun q hq => by
    obtain ⟨_, a2, a3⟩ := h q (by omega)
    omega
  have hm : 2 ^ t * (2 ^ t * 8) < 16777216 := by
    have : 2 ^ t * (2 ^ t * 8) ≤ 64 * (64 * 8) := Nat.mul_le_mul h64 (Nat.mul_le_mul_right _ h64)
    omega
  obtain ⟨g1, g2⟩ := bk_wh Z t 8 L h6 hL hb hm (by omega)
  have hpk : psOk s L = true := by
    unfold psOk
    rw [hs, Bool.true_and, ← Int.natCast_mul, hL.1, ht]
    simp
  have hc : pcC s L = 0 := by
    unfold pcC
    rw [if_neg (by rw [whl_fin hL]; decide), if_neg (by rw [hpk]; decide), g1]
  have e1 : pcS s L = s := by unfold pcS; rw [if_pos hc]
  have e2 : pcZ s L = gl (pcF L) L.length := by unfold pcZ; rw [if_pos hc]
  refine ⟨gl (pcF L) L.length, fun v w hO => ?_, gl_size _ _, ?_, ?_⟩
  · have := implPc s L (by rw [hL.1]; omega) v w hO
    rw [hc, e1, e2] at this
    exact this
  · rw [Array.all_eq_true_iff_forall_mem]
    intro v hv
    obtain ⟨i, hi, he⟩ := Array.mem_iff_getElem.1 hv
    have h1 := Array.getElem?_eq_getElem hi
    rw [he, gl_get] at h1
    split at h1
    · cases h1
      split <;> rfl
    · cases h1
  · refine eqlP_of s _ _ (gl_size _ _) (gl_size _ _) fun k hk => ?_
    refine ⟨_, _, glv_get _ _ k hk, glv_get _ _ k hk, ?_⟩
    unfold glv
    rw [hL.1, ht]
    by_cases hkn : k < 2 ^ t
    · rw [if_pos hkn, if_pos hkn]
      obtain ⟨a1, a2, a3⟩ := h k (by omega)
      exact wh_eq (wh_max (g2.2 k hkn) a2) a1
    · rw [if_neg hkn, if_neg hkn]
      exact wh_eq wh_zero wh_zero

end Go.Proofs.YtclflnpbiiimiaaDoor
