/- Plain facts on sums and quotients of float32's: a sum of numbers of at least 0 is at least each of them, and a number of at least 0 by one that is not less is a number. Condition: numbers of at least 0. What the laws do to lists of float32's: copy one, compare two, mark one and ask for the marks. Condition: as many numbers as a law lets in. -/
import Derived.Test.YtclflnpbiiimiaaDoorM10
import Derived.Test.YtclflnpbiiimiaaDoorM4
import Derived.Test.YtclflnpbiiimiaaDoorM3
import Derived.Lib.Hide
import Derived.Deep.Draws
import Derived.Deep.RegionHeld3
import Derived.Deep.RegionLaw
namespace Go.Proofs.YtclflnpbiiimiaaDoor
open Go Go.RowKit
open Ieee

theorem near_ge (T : Nat) (p : Int) (n : Nat) (q : Int) (hq : -149 ≤ q) (hnorm : 8388608 ≤ n ∨ q = -149) (hn : n < 16777216) (hpq : p ≤ q) (hT : n * 2 ^ (q - p).toNat ≤ T) :
    ∃ r, single.nearest false T p = single.word false r ∧ r ≤ 2139095040 ∧ min ((q + 149).toNat * 8388608 + n) 2139095040 ≤ r := by
  obtain ⟨d1, d2, d3, d4⟩ := single_parts
  by_cases hT0 : T = 0
  · have hn0 : n = 0 := by
      rcases Nat.eq_zero_or_pos n with h | h
      · exact h
      · have := Nat.mul_pos h (Nat.two_pow_pos (q - p).toNat); omega
    subst hn0
    have hq0 : q = -149 := by omega
    subst hq0
    unfold Format.nearest
    rw [if_pos hT0]
    exact ⟨0, rfl, by omega, Nat.min_le_left _ _⟩
  · rcases Nat.eq_zero_or_pos n with hn0 | hn0
    · have hq0 : q = -149 := by omega
      subst hn0 hq0
      obtain ⟨r, h1, h2, _⟩ := near_any false T p
      exact ⟨r, h1, h2, Nat.le_trans (Nat.min_le_left _ _) (Nat.zero_le _)⟩
    · have hl : n.log2 + (q - p).toNat ≤ T.log2 := by
        rw [Nat.le_log2 hT0, Nat.pow_add]
        exact Nat.le_trans (Nat.mul_le_mul_right _ (Nat.log2_self_le (by omega))) hT
      have hlast : q ≤ max (p + (T.log2 : Int) - 23) (-149) := by
        rcases hnorm with h | h
        · have h23 : 23 ≤ n.log2 := by rw [Nat.le_log2 (by omega)]; exact h
          omega
        · omega
      unfold Format.nearest
      rw [if_neg hT0]
      simp only [d1, d2, d3, d4]
      refine ⟨_, rfl, Nat.min_le_right _ _, ?_⟩
      generalize hL : max (p + (T.log2 : Int) - 23) (-149) = last at *
      have hk := cut_ge false (T <<< (p - last).toNat) (last - p).toNat
      rw [show (p - last).toNat = 0 by omega, Nat.shiftLeft_zero] at hk ⊢
      generalize Toward.even.cut false T (last - p).toNat = kept at *
      have hd : T / 2 ^ (last - p).toNat ≤ T / 2 ^ min (last - p).toNat (T.log2 + 2) := Nat.div_le_div_left (Nat.pow_le_pow_right (by omega) (Nat.min_le_left _ _)) (Nat.two_pow_pos _)
      have key : (q + 149).toNat * 8388608 + n ≤ (last - -149).toNat * 8388608 + kept := by
        by_cases hlq : last = q
        · subst hlq
          have : n ≤ T / 2 ^ (last - p).toNat := (Nat.le_div_iff_mul_le (Nat.two_pow_pos _)).2 hT
          omega
        · have h1 : last = p + (T.log2 : Int) - 23 := by omega
          have h2 : 8388608 ≤ T / 2 ^ (last - p).toNat := by
            rw [Nat.le_div_iff_mul_le (Nat.two_pow_pos _)]
            have e : 8388608 * 2 ^ (last - p).toNat = 2 ^ T.log2 := by
              rw [show (8388608 : Nat) = 2 ^ 23 by decide, ← Nat.pow_add]
              congr 1; omega
            rw [e]
            exact Nat.log2_self_le hT0
          omega
      exact Nat.le_min.2 ⟨Nat.le_trans (Nat.min_le_left _ _) key, Nat.min_le_right _ _⟩

/-- a sum with one of at least 0 -/
theorem add_ge (o x : Nat) (ho : Good o) (hx : fin x = true) (hx0 : ltz x = false) : ∃ r, single.add o x = some r ∧ r ≤ 2139095040 ∧ o ≤ r ∧ magF x ≤ r := by
  obtain ⟨s, m, p, hr, _⟩ := fin_read o ho.1
  obtain ⟨t, n, q, hq, _⟩ := fin_read x hx
  obtain ⟨a1, a2, a3, a4, a5⟩ := read_norm o s m p hr
  obtain ⟨b1, b2, b3, b4, b5⟩ := read_norm x t n q hq
  have hs : s = false := by
    rw [a5, show o / 2147483648 = 0 by have := ho.2; omega]; rfl
  subst hs
  have ht := ltz_read x t n q hq hx0
  have e : single.add o x = some (single.nearest false (m * 2 ^ (p - min p q).toNat + n * 2 ^ (q - min p q).toNat) (min p q)) := by
    unfold Format.add
    rw [hr, hq]
    simp only [Datum.sum, Option.map_some, Format.write]
    have hT : signed false m (p - min p q).toNat + signed t n (q - min p q).toNat = ((m * 2 ^ (p - min p q).toNat + n * 2 ^ (q - min p q).toNat : Nat) : Int) := by
      simp only [signed, Nat.shiftLeft_eq, Bool.false_eq_true, if_false]
      cases t
      · simp
      · have := ht rfl
        subst this
        simp
    rw [hT]
    generalize m * 2 ^ (p - min p q).toNat + n * 2 ^ (q - min p q).toNat = T at *
    have hsg : (if (T : Int) = 0 then (false && t) else decide ((T : Int) < 0)) = false := by
      split
      · rfl
      · simp
    rw [hsg, show ((T : Int)).natAbs = T from rfl]
  obtain ⟨r, h1, h2, h3⟩ := near_ge (m * 2 ^ (p - min p q).toNat + n * 2 ^ (q - min p q).toNat) (min p q) m p a1 a3 a2 (Int.min_le_left _ _) (Nat.le_add_right _ _)
  obtain ⟨r', h1', h2', h3'⟩ := near_ge (m * 2 ^ (p - min p q).toNat + n * 2 ^ (q - min p q).toNat) (min p q) n q b1 b3 b2 (Int.min_le_right _ _) (Nat.le_add_left _ _)
  rw [h1] at h1' e
  have hw : ∀ u, single.word false u = u := fun u => rfl
  rw [hw, hw] at h1'
  subst h1'
  have fo := ho.1
  have fo2 := ho.2
  simp only [fin, decide_eq_true_eq] at fo hx
  rw [← a4, Nat.mod_eq_of_lt fo2, Nat.min_eq_left (by rw [Nat.mod_eq_of_lt fo2] at fo; exact Nat.le_of_lt fo)] at h3
  rw [← b4, Nat.min_eq_left (Nat.le_of_lt hx)] at h3'
  exact ⟨r, e, h2, h3, h3'⟩

/-- a sum so far: a number of at least 0, or the infinity -/
def Sm (o : Nat) : Prop := Good o ∨ o = 2139095040
def addS (o x : Nat) : Nat := (single.add o x).getD 0
theorem addS_any (o x : Nat) (ho : Sm o) (hx : fin x = true) (hx0 : ltz x = false) : single.add o x = some (addS o x) ∧ Sm (addS o x) ∧ o ≤ addS o x ∧ magF x ≤ addS o x := by
  have main : ∃ r, single.add o x = some r ∧ Sm r ∧ o ≤ r ∧ magF x ≤ r := by
    rcases ho with ho | rfl
    · obtain ⟨r, h1, h2, h3, h4⟩ := add_ge o x ho hx hx0
      refine ⟨r, h1, ?_, h3, h4⟩
      by_cases hr : r = 2139095040
      · exact .inr hr
      · left
        refine ⟨?_, by omega⟩
        simp only [fin, decide_eq_true_eq]; omega
    · obtain ⟨t, n, q, hq, _⟩ := fin_read x hx
      refine ⟨2139095040, ?_, .inr rfl, Nat.le_refl _, ?_⟩
      · have hi : single.read 2139095040 = .infinity false := by decide
        unfold Format.add
        rw [hi, hq]
        rfl
      · have hx' := hx
        simp only [fin, decide_eq_true_eq] at hx'
        unfold magF; omega
  obtain ⟨r, h1, h2, h3, h4⟩ := main
  have e : addS o x = r := by unfold addS; rw [h1]; rfl
  rw [e]
  exact ⟨h1, h2, h3, h4⟩

theorem fold_any (L : List Nat) : ∀ o, Sm o → (∀ x ∈ L, fin x = true ∧ ltz x = false) → Sm (L.foldl addS o) ∧ o ≤ L.foldl addS o ∧ ∀ x ∈ L, magF x ≤ L.foldl addS o := by
  induction L with
  | nil => intro o ho _; exact ⟨ho, Nat.le_refl _, fun x hx => by cases hx⟩
  | cons x L ih =>
    intro o ho h
    obtain ⟨h1, h2, h3, h4⟩ := addS_any o x ho (h x (by simp)).1 (h x (by simp)).2
    obtain ⟨g1, g2, g3⟩ := ih (addS o x) h2 (fun y hy => h y (by simp [hy]))
    rw [List.foldl_cons]
    refine ⟨g1, Nat.le_trans h3 g2, fun y hy => ?_⟩
    rcases List.mem_cons.1 hy with rfl | hy
    · exact Nat.le_trans h4 g2
    · exact g3 y hy

theorem sm_zero : Sm 0 := .inl good_zero
theorem sm_fin (o : Nat) (h : Sm o) (hf : fin o = true) : Good o := by
  rcases h with h | rfl
  · exact h
  · exact absurd hf (by decide)

theorem log_le (m n : Nat) (i j : Int) (hm : 0 < m) (hn : 0 < n) (hm2 : m < 16777216) (hn2 : n < 16777216) (hi : -149 ≤ i) (hj : -149 ≤ j) (hi2 : 8388608 ≤ m ∨ i = -149) (hj2 : 8388608 ≤ n ∨ j = -149)
    (h : (i + 149).toNat * 8388608 + m ≤ (j + 149).toNat * 8388608 + n) : i + (m.log2 : Int) ≤ j + (n.log2 : Int) := by
  have lm : m.log2 < 24 := (Nat.log2_lt (by omega)).2 hm2
  rcases Int.lt_trichotomy i j with h1 | h1 | h1
  · have : 23 ≤ n.log2 := by rw [Nat.le_log2 (by omega)]; omega
    omega
  · subst h1
    have hmn : m ≤ n := by omega
    have : m.log2 ≤ n.log2 := by
      rw [Nat.le_log2 (by omega)]
      exact Nat.le_trans (Nat.log2_self_le (by omega)) hmn
    omega
  · exfalso
    have hm8 : 8388608 ≤ m := by
      rcases hi2 with h | h
      · exact h
      · omega
    obtain ⟨a, ha⟩ : ∃ a : Nat, (i + 149).toNat = (j + 149).toNat + 1 + a := ⟨(i + 149).toNat - ((j + 149).toNat + 1), by omega⟩
    rw [ha] at h
    generalize (j + 149).toNat = b at *
    omega

/-- a quotient by one that is not less -/
theorem div_fin (x y : Nat) (hx : fin x = true) (hy : Good y) (h0 : eqz y = false) (h : magF x ≤ y) : ∃ r, single.div x y = some r ∧ fin r = true := by
  obtain ⟨s, m, i, hr, _⟩ := fin_read x hx
  obtain ⟨t, n, j, hq, _⟩ := fin_read y hy.1
  obtain ⟨a1, a2, a3, a4, a5⟩ := read_norm x s m i hr
  obtain ⟨b1, b2, b3, b4, b5⟩ := read_norm y t n j hq
  have hn : 0 < n := by
    rcases Nat.eq_zero_or_pos n with e | e
    · subst e; rw [zero_eqz y t j hq] at h0; cases h0
    · exact e
  unfold Format.div
  rw [hr, hq]
  have hdig : single.fractionBits + 2 = 25 := rfl
  simp only [Datum.quotient, show ¬ n = 0 by omega, if_false, Option.map_some, Format.write, hdig, Option.some.injEq, exists_eq_left']
  generalize hmore : 25 + n.log2 - m.log2 = more at *
  rcases Nat.eq_zero_or_pos m with hm | hm
  · subst hm
    have e : 2 * ((0 <<< more) / n) + ((0 <<< more) % n != 0).toNat = 0 := by simp
    rw [e]
    obtain ⟨r, h1, _, h3, _⟩ := near_any (s ^^ t) 0 (i - j - ↑more - 1)
    rw [h1, h3 rfl, fin_word]
    decide
  · have hlog := log_le m n i j hm hn a2 b2 a1 b1 a3 b3 (by
      have hy2 := hy.2
      unfold magF at h
      omega)
    have lm : m.log2 < 24 := (Nat.log2_lt (by omega)).2 a2
    have hD : m <<< more < 2 ^ 26 * n := by
      rw [Nat.shiftLeft_eq]
      have h1 : m * 2 ^ more < 2 ^ (m.log2 + 1) * 2 ^ more := Nat.mul_lt_mul_of_pos_right (lt_two_log m) (Nat.two_pow_pos _)
      rw [← Nat.pow_add] at h1
      have h2 : 2 ^ (m.log2 + 1 + more) = 2 ^ 26 * 2 ^ n.log2 := by rw [← Nat.pow_add]; congr 1; omega
      have h3 : 2 ^ 26 * 2 ^ n.log2 ≤ 2 ^ 26 * n := Nat.mul_le_mul_left _ (Nat.log2_self_le (by omega))
      omega
    have hq26 : (m <<< more) / n < 2 ^ 26 := (Nat.div_lt_iff_lt_mul hn).2 hD
    generalize m <<< more = D at *
    have hb : (D % n != 0).toNat ≤ 1 := by cases (D % n != 0) <;> simp
    generalize hG : 2 * (D / n) + (D % n != 0).toNat = G at *
    have hG27 : G < 2 ^ 27 := by omega
    rcases Nat.eq_zero_or_pos G with e | e
    · rw [e]
      obtain ⟨r, h1, _, h3, _⟩ := near_any (s ^^ t) 0 (i - j - ↑more - 1)
      rw [h1, h3 rfl, fin_word]
      decide
    · have hl : G.log2 < 27 := (Nat.log2_lt (by omega)).2 hG27
      obtain ⟨r, h1, h2, _⟩ := near_low (s ^^ t) G (i - j - ↑more - 1) 0 e (by omega) (by omega) (by omega)
      rw [h1, fin_word]
      have : r ≤ 128 * 8388608 := h2
      rw [decide_eq_true_eq, Nat.mod_eq_of_lt (by omega)]
      omega
end Go.Proofs.YtclflnpbiiimiaaDoor

namespace Go.Proofs.YtclflnpbiiimiaaDoor
open Go Go.RowKit

/-- a whole number as a float32 is equal to itself -/
theorem same_notnan (x : Nat) (h : NotNan x) : (FloatKind.f32.format.order x x != some .eq) = false := by
  have : FloatKind.f32.format.order x x = some .eq := by
    show (Ieee.single.read x).order (Ieee.single.read x) = _
    rcases h with ⟨s, m, p, h⟩ | ⟨s, h⟩
    · rw [h]; simp only [Ieee.Datum.order, int_cmp_self]
    · rw [h]; cases s <;> rfl
  rw [this]; rfl
theorem ofInt_same (k : Int) : (FloatKind.f32.format.order (floatOfInt .f32 k) (floatOfInt .f32 k) != some .eq) = false := by
  refine same_notnan _ ?_
  exact notnan_near _ _ _

theorem order_nanD (t y : Nat) : Ieee.double.order (nan64 t) y = none := by
  have h1 := nan64_mod t
  unfold Ieee.Format.order
  rw [read64 (nan64 t), if_neg (by omega), if_neg (by omega), if_neg (by omega)]
  rfl
/-- the laws' comparison of two that are none -/
theorem sameFloat_nan (p q : Nat) (w : World) : Calls Tryd.prog 63 #[.float .f64 (nan64 p), .float .f64 (nan64 q)] w fun e w' => e = .returned (.bool true) ∧ w = w' := by
  have o : ∀ t y, FloatKind.f64.format.order (nan64 t) y = none := fun t y => by
    show Ieee.double.order (nan64 t) y = none
    exact order_nanD t y
  have h1 : (FloatKind.f64.format.order (nan64 p) (nan64 p) != some .eq) = true := by rw [o]; rfl
  have h2 : (FloatKind.f64.format.order (nan64 q) (nan64 q) != some .eq) = true := by rw [o]; rfl
  generalize nan64 p = x at *
  generalize nan64 q = y at *
  clear o
  go_enter Tryd.func63, Tryd.ntmps63
  go_wp2
  go_ret
  exact ⟨rfl, rfl⟩

theorem OwnF.came {B : Nat} {v : Value} {L : List Nat} {w : World} (h : OwnF B v L w) : ∃ a c, v = .slice a L.length c ∧ CameF a L.length L w := by
  rcases h.kind with ⟨rfl, rfl⟩ | ⟨g, cap, rfl, hb, hg⟩
  · exact ⟨none, 0, rfl, rfl, fun h0 => absurd h0 (by simp)⟩
  · exact ⟨some ⟨g, 0, none⟩, cap, rfl, rfl, fun _ => ⟨g, 0, rfl, hg, fun i hi => by rw [Nat.zero_add]; exact h.cell i hi⟩⟩

/-- the first k of a list, then zeros -/
def preF (L : List Nat) (n k : Nat) : List Nat := L.take k ++ List.replicate (n - k) 0
theorem pre_lenF (L : List Nat) (n k : Nat) (h : L.length = n) (hk : k ≤ n) : (preF L n k).length = n := by
  unfold preF; rw [List.length_append, List.length_take, List.length_replicate]; omega
theorem pre_setF (L : List Nat) (n k : Nat) (h : L.length = n) (hk : k < n) : (preF L n k).set k (L.getD k 0) = preF L n (k + 1) := by
  unfold preF
  obtain ⟨m, hm⟩ : ∃ m, n - k = m + 1 := ⟨n - k - 1, by omega⟩
  have hm2 : n - (k + 1) = m := by omega
  rw [hm, hm2, List.replicate_succ, List.set_append_right _ _ (by rw [List.length_take]; omega)]
  have h0 : k - (L.take k).length = 0 := by rw [List.length_take]; omega
  rw [h0, List.set_cons_zero, take_succ_getDF L k (by omega)]
  simp
theorem pre_allF (L : List Nat) (n : Nat) (h : L.length = n) : preF L n n = L := by
  unfold preF
  rw [List.take_of_length_le (by omega), Nat.sub_self]
  simp

set_option maxRecDepth 100000 in
set_option maxHeartbeats 800000 in
theorem toF_any (a : Option Addr) (n cap : Nat) (L : List Nat) (w : World) (h : CameF a n L w) (hn : n ≤ 1048576) :
    Calls Tryd.prog 29 #[.slice a n cap] w fun e w' => ∃ v, e = .returned v ∧ OwnF w.heap.size v L w' ∧ Below w.heap.size w w' := by
  obtain ⟨i0, hi, hz0, hz1, hz2⟩ := info_parts infoF
  have HL := Lib.hid h.1
  have HC := Lib.hid h.2
  clear h
  go_enter Tryd.func29, Tryd.ntmps29
  go_wp2_with (refine wpList_make_full _ rfl _ _ 26 rfl w.heap.size 38 i0 (.float .f32 0) 1 Tryd.underlying26 hi hz0 hz1 .i64 .i64 n n n rfl rfl rfl rfl ?b2 ?b3 (Nat.le_refl _) ?_)
  case b2 => rw [hz2]; omega
  case b3 => unfold maxLen; omega
  intro w1 hown hgrow
  have O1 : Hid (OwnF w.heap.size (.slice (some ⟨w.heap.size, 0, none⟩) n n) (preF L n 0) w1) := by
    refine Lib.hid ?_
    have e : (madeCells #[Value.float .f32 0] n).toList = (preF L n 0).map (Value.float .f32) := by
      rw [toList_madeCells_one]
      simp [preF]
    rw [e] at hown
    unfold OwnF
    rw [pre_lenF L n 0 HL.out (Nat.zero_le _)]
    exact hown
  have B1 : Hid (Below w.heap.size w w1) := Lib.hid ((Below.refl _ _).grown hgrow (Nat.le_refl _) (fun k hk => by cases hk))
  clear hown hgrow hi hz0 hz1 hz2
  go_wp2
  go_loopw [4] (fun i wr => ∃ k : Nat, k ≤ n ∧ i = .int .i64 k ∧ Hid (OwnF w.heap.size (.slice (some ⟨w.heap.size, 0, none⟩) n n) (preF L n k) wr) ∧ Hid (Below w.heap.size w wr)) (fun i _ => n - (intOf i).toNat)
  case atStart => exact ⟨0, by omega, rfl, O1, B1⟩
  case round =>
    obtain ⟨k, hk, rfl, O2, B2⟩ := hrel
    by_cases hlt : k < n
    · have hdk : decide ((k : Int) < (n : Int)) = true := by simp; omega
      obtain ⟨b, off, rfl, hb, hc⟩ := HC.out (by omega)
      have c := (B2.out.cell (p := ⟨b, off + k, none⟩) hb).trans (hc k hlt)
      have hl := pre_lenF L n k HL.out hk
      have o2 : OwnF w.heap.size (.slice (some ⟨w.heap.size, 0, none⟩) (preF L n k).length n) (preF L n k) wr := by rw [hl]; exact O2.out
      have f := o2.free k
      have c2 := o2.cell k (by omega)
      have O3 : Hid (OwnF w.heap.size (.slice (some ⟨w.heap.size, 0, none⟩) n n) (preF L n (k + 1)) (wr.setCell ⟨w.heap.size, k, none⟩ (.float .f32 (L.getD k 0)))) := by
        refine Lib.hid ?_
        have := o2.stored k (L.getD k 0)
        rw [pre_setF L n k HL.out hlt, hl] at this
        exact this
      have B3 := Lib.hid (B2.out.setCell (p := ⟨w.heap.size, k, none⟩) (Nat.le_refl _) (.float .f32 (L.getD k 0)))
      clear hb hc hl o2
      generalize L.getD k 0 = x at *
      generalize (preF L n k).getD k 0 = y at *
      go_wp2
      exact ⟨⟨k + 1, by omega, by go_num, O3, B3⟩, by simp [intOf]; omega⟩
    · obtain rfl : k = n := by omega
      have O3 := O2.out
      rw [pre_allF L k HL.out] at O3
      go_wp2
      go_ret
      exact ⟨_, rfl, O3, B2.out⟩

set_option maxRecDepth 100000 in
/-- a float32 as float64: itself, or one that is none -/
theorem conv_cases (x : Nat) : (∃ y, own y = true ∧ ∀ w, (convert 38 85 (.float .f32 x)).run Tryd.prog w = .ok (.float .f64 y) w) ∨
    (∀ w, (convert 38 85 (.float .f32 x)).run Tryd.prog w = .ok (.float .f64 (nan64 (w.tape w.drawn (.nanConv .f64 x)))) w.drew) := by
  cases hf : fin x
  · rcases inf_read x hf with ⟨s, hs⟩ | ⟨s, t, hs⟩
    · exact .inl ⟨_, by cases s <;> decide, run_conv_inf x s hs⟩
    · exact .inr (run_conv_nan x s t hs)
  · exact .inl ⟨_, own_conv x hf, run_conv_fin x hf⟩

set_option maxRecDepth 100000 in
set_option maxHeartbeats 800000 in
theorem eqF_yes (a1 a2 : Option Addr) (n c1 c2 : Nat) (L : List Nat) (w : World) (h1 : CameF a1 n L w) (h2 : CameF a2 n L w) (hn : n ≤ 1048576) :
    Calls Tryd.prog 31 #[.slice a1 n c1, .slice a2 n c2] w fun e w' => e = .returned (.bool true) ∧ Below w.heap.size w w' := by
  have H1 := Lib.hid h1
  have H2 := Lib.hid h2
  clear h1 h2
  have hnn : ((n : Int) != n) = false := by simp
  go_enter Tryd.func31, Tryd.ntmps31
  go_wp2
  go_loopw [5] (fun i wr => ∃ k : Nat, k ≤ n ∧ i = .int .i64 k ∧ Hid (∃ d, wr = w.drewN d)) (fun i _ => n - (intOf i).toNat)
  case atStart => exact ⟨0, by omega, rfl, Lib.hid ⟨0, rfl⟩⟩
  case round =>
    obtain ⟨k, hk, rfl, HW⟩ := hrel
    by_cases hlt : k < n
    · have hdk : decide ((k : Int) < (n : Int)) = true := by simp; omega
      obtain ⟨b1, o1, rfl, hb1, hc1⟩ := H1.out.2 (by omega)
      obtain ⟨b2, o2, rfl, hb2, hc2⟩ := H2.out.2 (by omega)
      have PP : Hid (∀ u, (∃ d, u = w.drewN d) → u.cell? ⟨b1, o1 + k, none⟩ = some (.float .f32 (L.getD k 0)) ∧ u.cell? ⟨b2, o2 + k, none⟩ = some (.float .f32 (L.getD k 0))) := Lib.hid fun u ⟨d, hd⟩ => by rw [hd, World.cell?_drewN, World.cell?_drewN]; exact ⟨hc1 k hlt, hc2 k hlt⟩
      have p1 := (PP.out wr HW.out).1
      have p2 := (PP.out wr HW.out).2
      clear hb1 hc1 hb2 hc2
      generalize L.getD k 0 = x at *
      rcases conv_cases x with ⟨y, hy, hcv⟩ | hcv
      · have HS := Lib.hid (sameFloat_refl y hy)
        clear hy
        go_wp2_with fail
        go_quiet ((go_at_call 63; exact Calls.quiet_of_same ((HS.out _).mono fun e w' h => ⟨h.1, h.2.symm⟩)))
        go_wp2
        exact ⟨⟨k + 1, by omega, by go_num, by obtain ⟨d, hd⟩ := HW.out; exact Lib.hid ⟨_, by rw [hd, World.drewN_drewN]⟩⟩, by simp [intOf]; omega⟩
      · have HW2 : ∃ d, wr.drew = w.drewN d := by obtain ⟨d, rfl⟩ := HW.out; exact ⟨d + 1, rfl⟩
        go_wp2_with fail
        refine wp_region_noPanic ?_
        refine wp_region_held_drew (S := fun u => ∃ d, u = w.drewN d) (by kernel_rfl) HW2 (fun hHeld => ?_)
        refine wpAnyH_take (i := 0) (v := .slice (some ⟨b1, o1, none⟩) n c1) rfl (by kernel_rfl) (by kernel_rfl) (by kernel_rfl) (fun _ _ _ h => h) (Or.inl ⟨by rfl, fun w' hSw => by have c0 := (PP.out w' hSw).1; have c1 := (PP.out w' hSw).2; go_simp⟩) hHeld ?_
        simp only [Act.put]
        refine wpAnyH_take (i := 1) (v := .int .i64 k) rfl (by kernel_rfl) (by kernel_rfl) (by kernel_rfl) (fun _ _ _ h => h) (Or.inl ⟨by rfl, fun w' hSw => by have c0 := (PP.out w' hSw).1; have c1 := (PP.out w' hSw).2; go_simp⟩) hHeld ?_
        simp only [Act.put]
        refine wpAnyH_take (i := 2) (v := .pointer (some ⟨b1, o1 + k, none⟩)) rfl (by kernel_rfl) (by kernel_rfl) (by kernel_rfl) (fun _ _ _ h => h) (Or.inl ⟨by rfl, fun w' hSw => by have c0 := (PP.out w' hSw).1; have c1 := (PP.out w' hSw).2; go_simp⟩) hHeld ?_
        simp only [Act.put]
        refine wpAnyH_take (i := 3) (v := .float .f32 x) rfl (by kernel_rfl) (by kernel_rfl) (by kernel_rfl) (fun _ _ _ h => h) (Or.inl ⟨by rfl, fun w' hSw => by have c0 := (PP.out w' hSw).1; have c1 := (PP.out w' hSw).2; go_simp⟩) hHeld ?_
        simp only [Act.put]
        refine wpAnyH_take (i := 5) (v := .slice (some ⟨b2, o2, none⟩) n c2) rfl (by kernel_rfl) (by kernel_rfl) (by kernel_rfl) (fun _ _ _ h => h) (Or.inl ⟨by rfl, fun w' hSw => by have c0 := (PP.out w' hSw).1; have c1 := (PP.out w' hSw).2; go_simp⟩) hHeld ?_
        simp only [Act.put]
        refine wpAnyH_take (i := 6) (v := .int .i64 k) rfl (by kernel_rfl) (by kernel_rfl) (by kernel_rfl) (fun _ _ _ h => h) (Or.inl ⟨by rfl, fun w' hSw => by have c0 := (PP.out w' hSw).1; have c1 := (PP.out w' hSw).2; go_simp⟩) hHeld ?_
        simp only [Act.put]
        refine wpAnyH_take (i := 7) (v := .pointer (some ⟨b2, o2 + k, none⟩)) rfl (by kernel_rfl) (by kernel_rfl) (by kernel_rfl) (fun _ _ _ h => h) (Or.inl ⟨by rfl, fun w' hSw => by have c0 := (PP.out w' hSw).1; have c1 := (PP.out w' hSw).2; go_simp⟩) hHeld ?_
        simp only [Act.put]
        refine wpAnyH_take (i := 8) (v := .float .f32 x) rfl (by kernel_rfl) (by kernel_rfl) (by kernel_rfl) (fun _ _ _ h => h) (Or.inl ⟨by rfl, fun w' hSw => by have c0 := (PP.out w' hSw).1; have c1 := (PP.out w' hSw).2; go_simp⟩) hHeld ?_
        simp only [Act.put]
        refine wpAnyH_ready (rs := [4, 9]) (by kernel_rfl) (by simp) ?_
        refine AllReadyH.cons (o := _) rfl (fun K hK => ?_) (AllReadyH.cons (o := _) rfl (fun K hK => ?_) AllReadyH.nil)
        · rw [if_pos (by rfl)]
          go_simp
          refine hK.out _ _ (by obtain ⟨d, hd⟩ := hHeld; exact ⟨d + 1, by rw [hd]; rfl⟩) (fun hHeldA => ?_)
          clear hK K
          refine wpAnyH_ready (rs := [9]) (by kernel_rfl) (by simp) ?_
          refine AllReadyH.cons (o := _) rfl (fun K hK => ?_) AllReadyH.nil
          rw [if_pos (by rfl)]
          go_simp
          refine hK.out _ _ (by obtain ⟨d, hd⟩ := hHeldA; exact ⟨d + 1, by rw [hd]; rfl⟩) (fun hHeldB => ?_)
          clear hK K
          refine wpAnyH_ready (rs := [10]) (by kernel_rfl) (by simp) ?_
          refine AllReadyH.cons (o := _) rfl (fun K hK => ?_) AllReadyH.nil
          rw [if_pos (by rfl)]
          go_simp
          refine (sameFloat_nan _ _ _).mono ?_
          rintro e w3 ⟨rfl, rfl⟩
          refine hK.out _ _ hHeldB (fun hHeld9 => ?_)
          clear hK K
          refine wpAnyH_take (i := 11) (v := .bool false) rfl (by kernel_rfl) (by kernel_rfl) (by kernel_rfl) (fun _ _ _ h => h) (Or.inl ⟨by rfl, fun w' hSw => by go_simp⟩) hHeld9 ?_
          simp only [Act.put]
          refine wpAnyH_done (by kernel_rfl) (NoPanic.normal ?_) _
          go_wp2
          exact ⟨⟨k + 1, by omega, by go_num, Lib.hid hHeldB⟩, by simp [intOf]; omega⟩
        · rw [if_pos (by rfl)]
          go_simp
          refine hK.out _ _ (by obtain ⟨d, hd⟩ := hHeld; exact ⟨d + 1, by rw [hd]; rfl⟩) (fun hHeldA => ?_)
          clear hK K
          refine wpAnyH_ready (rs := [4]) (by kernel_rfl) (by simp) ?_
          refine AllReadyH.cons (o := _) rfl (fun K hK => ?_) AllReadyH.nil
          rw [if_pos (by rfl)]
          go_simp
          refine hK.out _ _ (by obtain ⟨d, hd⟩ := hHeldA; exact ⟨d + 1, by rw [hd]; rfl⟩) (fun hHeldB => ?_)
          clear hK K
          refine wpAnyH_ready (rs := [10]) (by kernel_rfl) (by simp) ?_
          refine AllReadyH.cons (o := _) rfl (fun K hK => ?_) AllReadyH.nil
          rw [if_pos (by rfl)]
          go_simp
          refine (sameFloat_nan _ _ _).mono ?_
          rintro e w3 ⟨rfl, rfl⟩
          refine hK.out _ _ hHeldB (fun hHeld9 => ?_)
          clear hK K
          refine wpAnyH_take (i := 11) (v := .bool false) rfl (by kernel_rfl) (by kernel_rfl) (by kernel_rfl) (fun _ _ _ h => h) (Or.inl ⟨by rfl, fun w' hSw => by go_simp⟩) hHeld9 ?_
          simp only [Act.put]
          refine wpAnyH_done (by kernel_rfl) (NoPanic.normal ?_) _
          go_wp2
          exact ⟨⟨k + 1, by omega, by go_num, Lib.hid hHeldB⟩, by simp [intOf]; omega⟩
    · obtain rfl : k = n := by omega
      go_wp2
      go_ret
      obtain ⟨d, rfl⟩ := HW.out
      exact ⟨rfl, Below.drewn d⟩

/-- the numbers from k on -/
def marksF (n : Nat) (k : Int) : List Nat := (List.range n).map (fun (i : Nat) => floatOfInt .f32 (k + (i : Int)))
theorem marks_lenF (n : Nat) (k : Int) : (marksF n k).length = n := by simp [marksF]
theorem marks_getF (n : Nat) (k : Int) (i : Nat) (h : i < n) : (marksF n k).getD i 0 = floatOfInt .f32 (k + i) := by
  simp [marksF, List.getD_eq_getElem?_getD, h]

/-- the first k numbers marked -/
def mpreF (s : Int) (L : List Nat) (k : Nat) : List Nat := marksF k s ++ L.drop k
theorem mpre_lenF (s : Int) (L : List Nat) (k : Nat) (hk : k ≤ L.length) : (mpreF s L k).length = L.length := by
  unfold mpreF; rw [List.length_append, marks_lenF, List.length_drop]; omega
theorem mpre_setF (s : Int) (L : List Nat) (k : Nat) (hk : k < L.length) : (mpreF s L k).set k (floatOfInt .f32 (s + (k : Int))) = mpreF s L (k + 1) := by
  unfold mpreF
  rw [List.set_append_right _ _ (by rw [marks_lenF]; omega), marks_lenF, Nat.sub_self, List.drop_eq_getElem_cons hk, List.set_cons_zero]
  simp [marksF, List.range_succ]
theorem mpre_allF (s : Int) (L : List Nat) : mpreF s L L.length = marksF L.length s := by simp [mpreF]

end Go.Proofs.YtclflnpbiiimiaaDoor
