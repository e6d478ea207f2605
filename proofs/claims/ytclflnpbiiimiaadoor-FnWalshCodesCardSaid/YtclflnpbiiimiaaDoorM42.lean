/- The draws of chapter 10 that the law of apertures asks for; the law's own lists of small whole numbers and its comparison of lists. Condition: a code that can be read. Shadows of lists of small whole numbers are decoded exactly; correlations with the first number alone are the lists; codes of Legendre are balanced. Condition: small whole numbers. Lists of numbers that program and model answer, with a code; the law's comparison of them. Condition: at most 64 numbers. -/
import Derived.Test.YtclflnpbiiimiaaDoorDt
import Derived.Test.YtclflnpbiiimiaaDoorM38
import Derived.Test.YtclflnpbiiimiaaDoorWn
import Derived.Test.YtclflnpbiiimiaaDoorM19
import Derived.Test.YtclflnpbiiimiaaDoorKm
namespace Go.Proofs.YtclflnpbiiimiaaDoor
open Go Go.RowKit Ieee

/-- a list of at most 64 numbers -/
def ListW (w : World) (e : Ending) (w' : World) : Prop := ∃ v L, e = .returned v ∧ L.length ≤ 64 ∧ OwnF w.heap.size v L w' ∧ Below w.heap.size w w'

theorem drewN_two (w : World) (a b : Nat) : (w.drewN a).drewN b = w.drewN (a + b) := by
  unfold World.drewN
  simp [Nat.add_assoc]
/-- the law's comparison of two lists of numbers that are equal -/
theorem lists9_yes (a1 a2 : Option Addr) (n c1 c2 : Nat) (A B : List Nat) (w : World) (h1 : CameF a1 n A w) (h2 : CameF a2 n B w) (hn : n ≤ 1048576)
    (he : ∀ i, i < n → (FloatKind.f32.format.order (A.getD i 0) (B.getD i 0) == some .eq) = true) :
    Calls Tryd.prog 9 #[.slice a1 n c1, .slice a2 n c2] w fun e w' => e = .returned (.bool true) ∧ ∃ d, w' = w.drewN d := by
  have H1 := Lib.hid h1
  have H2 := Lib.hid h2
  have HE := Lib.hid he
  clear h1 h2 he
  have hnn : ((n : Int) != n) = false := by simp
  go_enter Tryd.func9, Tryd.ntmps9
  go_wp2
  go_loopw [5] (fun i wr => ∃ k d : Nat, k ≤ n ∧ i = .int .i64 k ∧ wr = w.drewN d) (fun i _ => n - (intOf i).toNat)
  case atStart => exact ⟨0, 0, by omega, rfl, rfl⟩
  case round =>
    obtain ⟨k, d, hk, rfl, hwr⟩ := hrel
    by_cases hlt : k < n
    · have hdk : decide ((k : Int) < (n : Int)) = true := by simp; omega
      obtain ⟨b1, o1, rfl, hb1, hc1⟩ := H1.out.2 (by omega)
      obtain ⟨b2, o2, rfl, hb2, hc2⟩ := H2.out.2 (by omega)
      have p1 : wr.cell? ⟨b1, o1 + k, none⟩ = some (.float .f32 (A.getD k 0)) := by rw [hwr]; exact hc1 k hlt
      have p2 : wr.cell? ⟨b2, o2 + k, none⟩ = some (.float .f32 (B.getD k 0)) := by rw [hwr]; exact hc2 k hlt
      have hx : (FloatKind.f32.format.order (A.getD k 0) (B.getD k 0) != some .eq) = false := by
        have := HE.out k hlt
        simpa using this
      clear hb1 hc1 hb2 hc2
      generalize A.getD k 0 = x at *
      generalize B.getD k 0 = y at *
      have HW := Lib.hid hwr
      clear hwr
      go_wp2_with fail
      go_quiet (fail)
      go_wp2_with fail
      exact ⟨⟨k + 1, d + nq, by omega, by go_num, by rw [HW.out]; exact drewN_two w d nq⟩, by simp [intOf]; omega⟩
    · obtain rfl : k = n := by omega
      go_wp2
      go_ret
      exact ⟨rfl, d, by first | exact hwr | rfl⟩

theorem Dic.kept {p B : Nat} {w w' : World} (s : Dic p w) (k : Below B w w') (hp : p < B) : Dic p w' := by
  obtain ⟨len, cap, pos, ad, x, hg, a, b, c, d, hc⟩ := s
  refine ⟨len, cap, pos, ad, x, by rw [k.block p hp]; exact hg, a, b, c, d, fun h0 => ?_⟩
  obtain ⟨cb, off, e, ne, lt, hb⟩ := hc h0
  refine ⟨cb, off, e, ne, by have := k.size; omega, fun i hi => ?_⟩
  rw [k.cell (p := ⟨cb, off + i, none⟩) (show cb < B by omega)]
  exact hb i hi
theorem Dic.lt {p : Nat} {w : World} (h : Dic p w) : p < w.heap.size := by
  obtain ⟨_, _, _, _, _, hg, _⟩ := h
  by_cases hl : p < w.heap.size
  · exact hl
  · rw [Array.getElem?_eq_none (by omega)] at hg; cases hg
theorem Dic.alloc {p : Nat} {w : World} (h : Dic p w) (o : Obj) : Dic p (w.alloc o) := h.kept ((Below.refl w.heap.size w).alloc (Nat.le_refl _) o) h.lt

/-- small whole numbers -/
def Small (Z : Nat → Int) (L : List Nat) : Prop := ∀ i, i < L.length → Wh (Z i) (L.getD i 0) ∧ (Z i).natAbs ≤ 10

set_option maxRecDepth 100000 in
set_option maxHeartbeats 1600000 in
theorem numbers9_any (p N : Nat) (hN : N ≤ 64) (w : World) (hs : Dic p w) : Calls Tryd.prog 26 #[.pointer (some ⟨p, 0, none⟩), .int .i64 (N : Int)] w fun e w' =>
    ∃ v L Z, e = .returned v ∧ L.length = N ∧ Small Z L ∧ OwnF w.heap.size v L w' ∧ Dic p w' ∧ Trn p w w' := by
  have HP := Lib.hid hs.lt
  have S1 := Lib.hid (hs.alloc (.cells #[] 38))
  have O1 : Hid (OwnF w.heap.size (.slice (some ⟨w.heap.size, 0, none⟩) 0 0) [] (w.alloc (.cells #[] 38))) := Lib.hid (OwnF.empty _ _ (Nat.le_refl _))
  have T1 : Hid (Trn p w (w.alloc (.cells #[] 38))) := Lib.hid ((Trn.refl p w).alloc _)
  clear hs
  go_enter Tryd.func26, Tryd.ntmps26
  go_wp2_with fail
  go_loopw [1, 5] (fun i v wr => ∃ k L Z, k ≤ N ∧ i = .int .i64 ((N - k : Nat) : Int) ∧ Hid (L.length = k) ∧ Hid (Small Z L) ∧ Hid (OwnF w.heap.size v L wr) ∧ Hid (Dic p wr) ∧ Hid (Trn p w wr)) (fun i _ _ => (intOf i).toNat)
  case atStart => exact ⟨0, [], fun _ => 0, by omega, rfl, Lib.hid rfl, Lib.hid (fun i hi => by simp at hi), O1, S1, T1⟩
  case round =>
    clear S1 O1 T1
    obtain ⟨k, L, Z, hk, rfl, HL, HZ, O, S, T⟩ := hrel
    obtain ⟨ad, cp, e0, _⟩ := O.out.came
    subst e0
    have hkl := HL.out
    rw [hkl] at O ⊢
    clear hkl
    by_cases hlt : k < N
    · have hpos : (0 : Int) < ((N - k : Nat) : Int) := by omega
      have hdk : decide (((N - k : Nat) : Int) > 0) = true := by simp; omega
      have hnext : IntKind.i64.wrap (((N - k : Nat) : Int) - 1) = ((N - (k + 1) : Nat) : Int) := (IntWalk.i64_in _ (by omega)).trans (by omega)
      go_wp2_with fail
      refine (below_any p 21 _ S.out).mono ?_
      rintro e w2 ⟨q, rfl, q0, q1, s2, o2⟩
      have hq : IntKind.i64.wrap (q - 10) = q - 10 := IntWalk.i64_in _ (by omega)
      have O2 := Lib.hid (O.out.trn o2 HP.out)
      have S2 := Lib.hid s2
      have T2 := Lib.hid (T.out.trans o2)
      have HW := Lib.hid (wh_int (q - 10) (by omega))
      have HQ : Hid ((q - 10).natAbs ≤ 10) := Lib.hid (by omega)
      have HLN : Hid (L.length ≤ 1048576) := Lib.hid (by rw [HL.out]; omega)
      clear s2 o2 O S T
      go_wp2_with (at_builtin; refine wpList_pushF rfl (.tmp 11) (.tmp 16) rfl w.heap.size _ _ (floatOfInt .f32 (q - 10)) rfl rfl O2.out HLN.out T2.out.size ?_)
      intro v' w6 O6 B6
      have O7 := Lib.hid O6
      have S7 := Lib.hid (S2.out.kept B6 HP.out)
      have T7 := Lib.hid (T2.out.kept B6)
      have HZ2 : Hid (Small (fun i => if i < k then Z i else q - 10) (L ++ [floatOfInt .f32 (q - 10)])) := Lib.hid fun i hi => by
        rw [List.length_append, HL.out] at hi
        rw [List.getD_eq_getElem?_getD]
        dsimp only
        by_cases h2 : i < k
        · rw [if_pos h2, List.getElem?_append_left (by rw [HL.out]; exact h2), ← List.getD_eq_getElem?_getD]
          exact HZ.out i (by rw [HL.out]; exact h2)
        · have : i = k := by simp at hi; omega
          subst this
          rw [if_neg h2, List.getElem?_append_right (by rw [HL.out]; omega), HL.out]
          simpa using ⟨HW.out, HQ.out⟩
      clear O6 B6 O2 S2 T2
      go_wp2_with fail
      exact ⟨⟨k + 1, L ++ [floatOfInt .f32 (q - 10)], _, by omega, by go_num, Lib.hid (by rw [List.length_append, HL.out]; rfl), HZ2, O7, S7, T7⟩, by simp [intOf]; omega⟩
    · obtain rfl : k = N := by omega
      have hz : ((k - k : Nat) : Int) = 0 := by omega
      rw [hz]
      go_wp2_with fail
      go_ret
      exact ⟨_, L, Z, rfl, HL.out, HZ.out, O.out, S.out, T.out⟩

end Go.Proofs.YtclflnpbiiimiaaDoor

namespace Go.Proofs.YtclflnpbiiimiaaDoor
open Go Go.RowKit Ieee

theorem rows_of {F : Nat → Option Nat} (P : Nat → Nat → Prop) : ∀ n, (∀ k, k < n → ∃ s, F k = some s ∧ P k s) → ∃ R, rowsTo F n = some R ∧ R.length = n ∧ ∀ k, k < n → P k (R.getD k 0)
  | 0, _ => ⟨[], rfl, rfl, fun k hk => by omega⟩
  | n + 1, h => by
    obtain ⟨R, h1, h2, h3⟩ := rows_of P n (fun k hk => h k (by omega))
    obtain ⟨s, h4, h5⟩ := h n (by omega)
    refine ⟨R ++ [s], rows_step h1 h4, by rw [List.length_append, h2]; rfl, fun k hk => ?_⟩
    rw [List.getD_eq_getElem?_getD]
    by_cases hk2 : k < n
    · rw [List.getElem?_append_left (by omega), ← List.getD_eq_getElem?_getD]
      exact h3 k hk2
    · obtain rfl : k = n := by omega
      rw [List.getElem?_append_right (by omega), h2]
      simpa using h5
theorem all_of {L : List Nat} {P : Nat → Bool} (h : ∀ i, i < L.length → P (L.getD i 0) = true) : L.all P = true := by
  rw [List.all_eq_true]
  intro x hx
  obtain ⟨i, hi, rfl⟩ := List.mem_iff_getElem.1 hx
  have := h i hi
  rwa [List.getD_eq_getElem?_getD, List.getElem?_eq_getElem hi] at this

/-- the squares' remainders, as digits -/
def tbQ (p : Nat) : Nat := if p = 3 then 3 else if p = 7 then 23 else if p = 11 then 571 else if p = 19 then 199411 else if p = 23 then 340831 else 303908791
def tb (p j : Nat) : Bool := (tbQ p).testBit j
def mI (b : Bool) : Int := if b then 1 else 0
def cI (b : Bool) : Int := if b then 1 else -1
def gchk (p : Nat) : Bool := (List.range p).all fun i => (List.range p).all fun k => zsum (fun j => mI (tb p ((j + p - i) % p)) * cI (tb p ((j + p - k) % p))) p == (if i = k then (((p + 1) / 2 : Nat) : Int) else 0)
def lchk (p : Nat) : Bool := (List.range p).all fun j => leg p j == (if tb p j then plusOne else minusOne)
theorem gchk3 : gchk 3 = true := by decide +kernel
theorem gchk7 : gchk 7 = true := by decide +kernel
theorem gchk11 : gchk 11 = true := by decide +kernel
theorem gchk19 : gchk 19 = true := by decide +kernel
theorem gchk23 : gchk 23 = true := by decide +kernel
theorem gchk31 : gchk 31 = true := by decide +kernel
theorem lchk3 : lchk 3 = true := by decide +kernel
theorem lchk7 : lchk 7 = true := by decide +kernel
theorem lchk11 : lchk 11 = true := by decide +kernel
theorem lchk19 : lchk 19 = true := by decide +kernel
theorem lchk23 : lchk 23 = true := by decide +kernel
theorem lchk31 : lchk 31 = true := by decide +kernel
theorem pr_cases {n : Nat} (h : prI (n : Int) = true) : n = 3 ∨ n = 7 ∨ n = 11 ∨ n = 19 ∨ n = 23 ∨ n = 31 := by
  rcases prI_yes h with e | e | e | e | e | e <;> omega
theorem gchk_any {n : Nat} (h : prI (n : Int) = true) : gchk n = true ∧ lchk n = true := by
  rcases pr_cases h with rfl | rfl | rfl | rfl | rfl | rfl
  · exact ⟨gchk3, lchk3⟩
  · exact ⟨gchk7, lchk7⟩
  · exact ⟨gchk11, lchk11⟩
  · exact ⟨gchk19, lchk19⟩
  · exact ⟨gchk23, lchk23⟩
  · exact ⟨gchk31, lchk31⟩
theorem leg_tb {n : Nat} (h : prI (n : Int) = true) (j : Nat) (hj : j < n) : leg n j = if tb n j then plusOne else minusOne := by
  have h1 := (gchk_any h).2
  unfold lchk at h1
  rw [List.all_eq_true] at h1
  simpa using h1 j (List.mem_range.2 hj)
theorem gram {n : Nat} (h : prI (n : Int) = true) (i k : Nat) (hi : i < n) (hk : k < n) : zsum (fun j => mI (tb n ((j + n - i) % n)) * cI (tb n ((j + n - k) % n))) n = if i = k then (((n + 1) / 2 : Nat) : Int) else 0 := by
  have h1 := (gchk_any h).1
  unfold gchk at h1
  rw [List.all_eq_true] at h1
  have h2 := h1 i (List.mem_range.2 hi)
  rw [List.all_eq_true] at h2
  have h3 := h2 k (List.mem_range.2 hk)
  rwa [beq_iff_eq] at h3

theorem wh_zero : Wh 0 0 := by
  have := wh_int 0 (by decide)
  have e : floatOfInt .f32 0 = 0 := by decide +kernel
  rwa [e] at this
theorem wh_one : Wh 1 plusOne := by
  have := wh_int 1 (by decide)
  have e : floatOfInt .f32 1 = plusOne := by decide +kernel
  rwa [e] at this
theorem wh_minus : Wh (-1) minusOne := by
  have := wh_int (-1) (by decide)
  have e : floatOfInt .f32 (-1) = minusOne := by decide +kernel
  rwa [e] at this
theorem wh_leg {n : Nat} (h : prI (n : Int) = true) (j : Nat) (hj : j < n) : Wh (cI (tb n j)) (leg n j) ∧ Wh (mI (tb n j)) (mk (leg n j)) := by
  rw [leg_tb h j hj]
  cases tb n j
  · refine ⟨wh_minus, ?_⟩
    have : mk (if false = true then plusOne else minusOne) = 0 := by decide
    rw [this]
    exact wh_zero
  · refine ⟨wh_one, ?_⟩
    have : mk (if true = true then plusOne else minusOne) = plusOne := by decide
    rw [this]
    exact wh_one
theorem mI_abs (b : Bool) : (mI b).natAbs ≤ 1 := by cases b <;> decide
theorem cI_abs (b : Bool) : (cI b).natAbs ≤ 1 := by cases b <;> decide
theorem abs_mul_le {a b : Int} {m : Nat} (ha : a.natAbs ≤ m) (hb : b.natAbs ≤ 1) : (a * b).natAbs ≤ m := by
  rw [Int.natAbs_mul]
  calc a.natAbs * b.natAbs ≤ m * 1 := Nat.mul_le_mul ha hb
    _ = m := Nat.mul_one m

/-- shadows of small whole numbers are decoded exactly -/
theorem dec_sha (A : List Nat) (Z : Nat → Int) (hp : prI (A.length : Int) = true) (hZ : ∀ i, i < A.length → Wh (Z i) (A.getD i 0) ∧ (Z i).natAbs ≤ 10) :
    ∃ T R, sha A = some T ∧ T.length = A.length ∧ (∀ i, i < T.length → fin (T.getD i 0) = true) ∧ dec T = some R ∧ R.length = A.length ∧ ∀ i, i < A.length → Wh (Z i) (R.getD i 0) := by
  obtain ⟨n, hn⟩ : ∃ n, n = A.length := ⟨_, rfl⟩
  have hS : ∃ T, sha A = some T ∧ T.length = n ∧ ∀ k, k < n → Wh (zsum (fun j => Z j * mI (tb n ((k + n - j) % n))) n) (T.getD k 0) := by
    unfold sha
    rw [← hn] at hp hZ ⊢
    obtain ⟨h3, h31⟩ := pr_len hp
    refine rows_wh (f := shF A) (F := fun k j => Z j * mI (tb n ((k + n - j) % n))) 10 n (by omega) n fun k hk j hj => ?_
    have hq : (k + n - j) % n < n := Nat.mod_lt _ (by omega)
    have hb := abs_mul_le (hZ j hj).2 (mI_abs (tb n ((k + n - j) % n)))
    refine ⟨?_, hb⟩
    unfold shF
    rw [← hn]
    exact (wh_mul (hZ j hj).1 (wh_leg hp _ hq).2 (by omega)).2
  obtain ⟨T, hT, hTl, hTw⟩ := hS
  have hD : ∃ R, dec T = some R ∧ R.length = n ∧ ∀ k, k < n → Wh (Z k) (R.getD k 0) := by
    unfold dec
    rw [hTl]
    rw [← hn] at hp hZ
    obtain ⟨h3, h31⟩ := pr_len hp
    refine rows_of (fun k s => Wh (Z k) s) n fun k hk => ?_
    have hTb : ∀ j, j < n → (zsum (fun i => Z i * mI (tb n ((j + n - i) % n))) n).natAbs ≤ n * 10 := fun j hj => zsum_abs _ 10 n fun i hi => abs_mul_le (hZ i hi).2 (mI_abs _)
    obtain ⟨s, h1, h2⟩ := acc_wh (f := dcF T k) (F := fun j => zsum (fun i => Z i * mI (tb n ((j + n - i) % n))) n * cI (tb n ((j + n - k) % n))) 310 n (fun j hj => by
      have hq : (j + n - k) % n < n := Nat.mod_lt _ (by omega)
      have hb := abs_mul_le (Nat.le_trans (hTb j hj) (show n * 10 ≤ 310 by omega)) (cI_abs (tb n ((j + n - k) % n)))
      unfold dcF
      rw [hTl]
      exact (wh_mul (hTw j hj) (wh_leg hp _ hq).1 (by omega)).2) (fun j hj => abs_mul_le (Nat.le_trans (hTb j hj) (show n * 10 ≤ 310 by omega)) (cI_abs _)) (by omega)
    have hsum : zsum (fun j => zsum (fun i => Z i * mI (tb n ((j + n - i) % n))) n * cI (tb n ((j + n - k) % n))) n = Z k * (((n + 1) / 2 : Nat) : Int) := by
      have e1 : zsum (fun j => zsum (fun i => Z i * mI (tb n ((j + n - i) % n))) n * cI (tb n ((j + n - k) % n))) n = zsum (fun j => zsum (fun i => Z i * (mI (tb n ((j + n - i) % n)) * cI (tb n ((j + n - k) % n)))) n) n := by
        refine zsum_congr n fun j hj => ?_
        rw [Int.mul_comm, ← zsum_mul]
        exact zsum_congr n fun i hi => by rw [Int.mul_comm (cI _), Int.mul_assoc]
      rw [e1, zsum_swap (fun i j => Z i * (mI (tb n ((j + n - i) % n)) * cI (tb n ((j + n - k) % n)))) n n]
      have e2 : zsum (fun i => zsum (fun j => Z i * (mI (tb n ((j + n - i) % n)) * cI (tb n ((j + n - k) % n)))) n) n = zsum (fun i => Z i * (if i = k then (((n + 1) / 2 : Nat) : Int) else 0)) n := by
        refine zsum_congr n fun i hi => ?_
        rw [zsum_mul, gram hp i k hi hk]
      rw [e2, zsum_one _ k n (fun j hj hne => by rw [if_neg hne, Int.mul_zero]), if_pos hk, if_pos rfl]
    rw [hsum] at h2
    have hhalf : Wh ((((n + 1) / 2 : Nat)) : Int) (half n) := wh_int _ (by omega)
    obtain ⟨r, h3, h4⟩ := wh_div h2 hhalf (by omega) (by have := (hZ k hk).2; omega)
    refine ⟨_, by rw [h1]; rfl, ?_⟩
    show Wh (Z k) ((single.div s (half n)).getD 0)
    rw [h3]
    exact h4
  obtain ⟨R, hR, hRl, hRw⟩ := hD
  exact ⟨T, R, hT, by omega, fun i hi => wh_fin (hTw i (by omega)), hR, by omega, fun i hi => hRw i (by omega)⟩

/-- a correlation with the first number alone is the list -/
theorem cor_first (F A : List Nat) (Z : Nat → Int) (h0 : 0 < A.length) (h64 : A.length ≤ 64) (hl : F.length = A.length) (hF : ∀ j, j < A.length → Wh (if j = 0 then 1 else 0) (F.getD j 0))
    (hZ : ∀ i, i < A.length → Wh (Z i) (A.getD i 0) ∧ (Z i).natAbs ≤ 10) : ∃ R, cor F A = some R ∧ R.length = A.length ∧ ∀ i, i < A.length → Wh (Z i) (R.getD i 0) := by
  unfold cor
  rw [hl]
  refine rows_of (fun k s => Wh (Z k) s) A.length fun k hk => ?_
  have hb : ∀ j, ((if j = 0 then (1 : Int) else 0) * Z ((j + k) % A.length)).natAbs ≤ 10 := fun j => by
    have h2 := (hZ ((j + k) % A.length) (Nat.mod_lt _ h0)).2
    split <;> simp <;> omega
  obtain ⟨s, h1, h2⟩ := acc_wh (f := corF F A k) (F := fun j => (if j = 0 then (1 : Int) else 0) * Z ((j + k) % A.length)) 10 A.length (fun j hj => by
    have hq : (j + k) % A.length < A.length := Nat.mod_lt _ h0
    have := hb j
    unfold corF
    exact (wh_mul (hF j hj) (hZ _ hq).1 (by omega)).2) (fun j _ => hb j) (by omega)
  refine ⟨s, h1, ?_⟩
  rw [zsum_one _ 0 A.length (fun j hj hne => by rw [if_neg hne, Int.zero_mul]), if_pos h0, if_pos rfl, Int.one_mul, Nat.zero_add, Nat.mod_eq_of_lt hk] at h2
  exact h2

theorem ib3 : ibAns (legs 3) = true ∧ ibCode (legs 3) = 0 := by decide +kernel
theorem ib7 : ibAns (legs 7) = true ∧ ibCode (legs 7) = 0 := by decide +kernel
theorem ib11 : ibAns (legs 11) = true ∧ ibCode (legs 11) = 0 := by decide +kernel
theorem ib19 : ibAns (legs 19) = true ∧ ibCode (legs 19) = 0 := by decide +kernel
theorem ib23 : ibAns (legs 23) = true ∧ ibCode (legs 23) = 0 := by decide +kernel
theorem ib31 : ibAns (legs 31) = true ∧ ibCode (legs 31) = 0 := by decide +kernel
/-- codes of Legendre are balanced -/
theorem ib_legs {n : Nat} (h : prI (n : Int) = true) : ibAns (legs n) = true ∧ ibCode (legs n) = 0 := by
  rcases pr_cases h with rfl | rfl | rfl | rfl | rfl | rfl
  · exact ib3
  · exact ib7
  · exact ib11
  · exact ib19
  · exact ib23
  · exact ib31

end Go.Proofs.YtclflnpbiiimiaaDoor

namespace Go.Proofs.YtclflnpbiiimiaaDoor
open Go Go.RowKit Ieee

/-- a list of n numbers and a code, in memory of their own -/
def AnsL (n : Nat) (L : List Nat) (c : Int) (w : World) (e : Ending) (w' : World) : Prop :=
  ∃ a cp, e = .returned (.tuple #[.slice a n cp, .int .i64 c]) ∧ OwnF w.heap.size (.slice a n cp) L w' ∧ Below w.heap.size w w'
theorem OwnF.camed {B : Nat} {a : Option Addr} {n c : Nat} {L : List Nat} {w : World} (h : OwnF B (.slice a n c) L w) : CameF a n L w := by
  obtain ⟨a', c', e, h2⟩ := h.came
  cases e
  exact h2
theorem ansL_of {w : World} {e : Ending} {w' : World} {L : List Nat} {c : Int} (h : ∃ r, e = .returned (.tuple #[r, .int .i64 c]) ∧ OwnF w.heap.size r L w' ∧ Below w.heap.size w w') : AnsL L.length L c w e w' := by
  obtain ⟨r, rfl, o, b⟩ := h
  obtain ⟨a, cp, rfl, _⟩ := o.came
  exact ⟨a, cp, rfl, o, b⟩
/-- numbers, or infinities -/
def AllN (L : List Nat) : Prop := ∀ i, i < L.length → NotNan (L.getD i 0)
theorem rows_get {F : Nat → Option Nat} : ∀ {n : Nat} {R : List Nat}, rowsTo F n = some R → ∀ q, q < n → F q = some (R.getD q 0)
  | 0, R, h, q, hq => by omega
  | n + 1, R, h, q, hq => by
    rw [rowsTo] at h
    cases h1 : rowsTo F n with
    | none => rw [h1, Option.bind_none] at h; cases h
    | some R1 =>
      rw [h1, Option.bind_some] at h
      cases h2 : F n with
      | none => rw [h2, Option.bind_none] at h; cases h
      | some s =>
        rw [h2, Option.bind_some] at h
        cases h
        have hl := rows_len h1
        rw [List.getD_eq_getElem?_getD]
        by_cases h3 : q < n
        · rw [List.getElem?_append_left (by omega), ← List.getD_eq_getElem?_getD]
          exact rows_get h1 q h3
        · obtain rfl : q = n := by omega
          rw [List.getElem?_append_right (by omega), hl, h2]
          simp
theorem ansL_all {F : Nat → Option Nat} {n : Nat} (h : ∀ k, k < n → ∀ s, F k = some s → NotNan s) : AllN (ansL (rowsTo F n)) := by
  unfold ansL
  cases hr : rowsTo F n with
  | none => intro i hi; simp at hi
  | some R =>
    intro i hi
    have hl := rows_len hr
    simp only [Option.getD_some] at hi ⊢
    exact h i (by omega) _ (rows_get hr i (by omega))
theorem alln_nil : AllN [] := fun i hi => by simp at hi
theorem self_eq {L : List Nat} (h : AllN L) : ∀ i, i < L.length → (FloatKind.f32.format.order (L.getD i 0) (L.getD i 0) == some .eq) = true := fun i hi => by
  have := same_notnan _ (h i hi)
  simpa using this

/-- the law's comparison of an answer with itself -/
theorem same_lists (n : Nat) (L : List Nat) (hl : L.length = n) (hn : n ≤ 64) (h : AllN L) {B1 B2 : Nat} {a1 a2 : Option Addr} {c1 c2 : Nat} {w : World} (h1 : OwnF B1 (.slice a1 n c1) L w) (h2 : OwnF B2 (.slice a2 n c2) L w) :
    Calls Tryd.prog 9 #[.slice a1 n c1, .slice a2 n c2] w fun e w' => e = .returned (.bool true) ∧ ∃ d, w' = w.drewN d :=
  lists9_yes a1 a2 n c1 c2 L L w h1.camed h2.camed (by omega) (fun i hi => self_eq h i (by omega))
/-- two lists of the same whole numbers are equal -/
theorem whole_lists (n : Nat) (L M : List Nat) (Z : Nat → Int) (hn : n ≤ 64) (hL : ∀ i, i < n → Wh (Z i) (L.getD i 0)) (hM : ∀ i, i < n → Wh (Z i) (M.getD i 0)) {B1 B2 : Nat} {a1 a2 : Option Addr} {c1 c2 : Nat} {w : World} (h1 : OwnF B1 (.slice a1 n c1) L w) (h2 : OwnF B2 (.slice a2 n c2) M w) :
    Calls Tryd.prog 9 #[.slice a1 n c1, .slice a2 n c2] w fun e w' => e = .returned (.bool true) ∧ ∃ d, w' = w.drewN d :=
  lists9_yes a1 a2 n c1 c2 L M w h1.camed h2.camed (by omega) (fun i hi => wh_eq (hL i hi) (hM i hi))

end Go.Proofs.YtclflnpbiiimiaaDoor
