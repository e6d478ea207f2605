/- A halftone's numbers, cell by cell: what the model and the program reckon at each. Condition: levels that are numbers; the level of the dots greater than 0. -/
import Derived.Test.YtjmfffgddmnkmabDoorQl
namespace Go.Proofs.YtjmfffgddmnkmabDoor
open Go Go.RowKit
open Ieee

/-- what is asked of the levels and of the number -/
structure HtOk (n t d : Nat) (L : Nat → Nat) : Prop where
  ft : fin t = true
  gt : gtz t = true
  md : single.mul 1073741824 t = some d
  lf : ∀ k, k < 64 → fin (L k) = true ∧ L k < 4294967296

theorem rest_same {n t d : Nat} {L : Nat → Nat} (h : HtOk n t d L) (s s' : Nat) (hf : fin s = true) (hz : zeq s s') :
    zeq (cellR t d s) (cellR t d s') ∧ geT s t = geT s' t ∧ (geT s t = true → single.sub s d = some (cellR t d s) ∧ single.sub s' d = some (cellR t d s') ∧ fin (cellR t d s) = fin d) ∧ (geT s t = false → cellR t d s = s ∧ cellR t d s' = s') := by
  have hg := geT_zeq s s' t hf hz
  unfold cellR
  rw [← hg]
  cases hge : geT s t
  · simp only [Bool.false_eq_true, if_false]
    exact ⟨hz, trivial, nofun, fun _ => ⟨trivial, trivial⟩⟩
  · have hf' : fin s' = true := by rw [← zeq_fin _ _ hz]; exact hf
    obtain ⟨r, h1, h2, h3⟩ := take_twice s t d hf h.ft h.gt hge h.md
    obtain ⟨r', h4, h5, h6⟩ := take_twice s' t d hf' h.ft h.gt (by rw [← hg]; exact hge) h.md
    simp only [if_true, h1, h4, Option.getD_some]
    refine ⟨?_, trivial, fun _ => ⟨trivial, trivial, h3⟩, nofun⟩
    rcases hz with rfl | ⟨e1, e2⟩
    · rw [h1] at h4
      injection h4 with e
      exact .inl e
    · exfalso
      obtain ⟨u, hu⟩ := eqz_read s e1
      obtain ⟨n', q', hr, hn, _⟩ := gtz_read t h.ft h.gt
      have hge' : ((single.read s).order (single.read t) == some .gt || (single.read s).order (single.read t) == some .eq) = true := hge
      rw [hu, hr] at hge'
      have hA : 0 < n' * 2 ^ (q' - min (-149) q').toNat := Nat.mul_pos hn (Nat.two_pow_pos _)
      simp only [Datum.order, signed, Nat.shiftLeft_eq, Nat.zero_mul, Bool.or_eq_true, beq_iff_eq, Option.some.injEq, Int.compare_eq_gt, Std.LawfulEqCmp.compare_eq_iff_eq, Bool.false_eq_true, if_false] at hge'
      generalize n' * 2 ^ (q' - min (-149) q').toNat = A at *
      cases u
      · simp only [Bool.false_eq_true, if_false] at hge'; omega
      · simp only [if_true] at hge'; omega

theorem same_all {n t d : Nat} {L : Nat → Nat} (h : HtOk n t d L) : ∀ k, k ≤ 64 → Same n t d L k := by
  intro k
  induction k with
  | zero => intro _; exact ⟨rfl, fun _ _ => .inl rfl, fun _ _ => by show fin 0 = true; decide, fun _ _ => ⟨by show (0 : Nat) < _; omega, by show (0 : Nat) < _; omega⟩⟩
  | succ k ih =>
    intro hk
    have S := ih (by omega)
    cases ho : okT n t d L false k
    · have e1 := okT_no n t d L false k (k + 1) (by omega) ho
      have e2 := okT_no n t d L true k (k + 1) (by omega) (by rw [← S.ok]; exact ho)
      exact ⟨by rw [e1, e2], fun h => absurd h (by rw [e1]; decide), fun h => absurd h (by rw [e1]; decide), fun h => absurd h (by rw [e1]; decide)⟩
    · have hz := S.zs ho
      have hf := S.fs ho
      have hl := S.ls ho
      have ho' := S.ok
      rw [ho] at ho'
      obtain ⟨l1, l2⟩ := h.lf k (by omega)
      obtain ⟨c1, c2, c3, _⟩ := cellS_same n L _ _ k l1 l2 hz hf
      have hsF : hT n t d L false (k + 1) = fun j => if j = k then cellH t d (sT n t d L false k) else hT n t d L false k j := rfl
      have hsT : hT n t d L true (k + 1) = fun j => if j = k then cellH t d (sT n t d L true k) else hT n t d L true k j := rfl
      have hokF : okT n t d L false (k + 1) = (okT n t d L false k && (fin (sT n t d L false k) && fin (cellR t d (sT n t d L false k)))) := rfl
      have hokT : okT n t d L true (k + 1) = (okT n t d L true k && (fin (sT n t d L true k) && fin (cellR t d (sT n t d L true k)))) := rfl
      have c1' : fin (sT n t d L false k) = fin (sT n t d L true k) := c1
      have c2' : fin (sT n t d L false k) = true → zeq (sT n t d L false k) (sT n t d L true k) := fun h => (c2 h).1
      rw [ho, Bool.true_and] at hokF
      rw [← ho', Bool.true_and] at hokT
      clear c1 c2 c3
      generalize sT n t d L false k = s at *
      generalize sT n t d L true k = s' at *
      cases hfs : fin s
      · rw [hfs, Bool.false_and] at hokF
        rw [← c1', hfs, Bool.false_and] at hokT
        exact ⟨by rw [hokF, hokT], fun h => absurd h (by rw [hokF]; decide), fun h => absurd h (by rw [hokF]; decide), fun h => absurd h (by rw [hokF]; decide)⟩
      · have hzs := c2' hfs
        obtain ⟨r1, r2, r3, r4⟩ := rest_same h s s' hfs hzs
        have hfr := zeq_fin _ _ r1
        rw [hfs, Bool.true_and] at hokF
        rw [← c1', hfs, Bool.true_and, ← hfr] at hokT
        have all : okT n t d L false (k + 1) = true → ∃ x x', cellH t d s = x ∧ cellH t d s' = x' ∧ zeq x x' ∧ fin x = true ∧ x < 4294967296 ∧ x' < 4294967296 := by
          intro h
          rw [hokF] at h
          obtain ⟨x, x', g1, g2, g3, g4, g5, g6⟩ := half_zeq (cellR t d s) (cellR t d s') h r1
          exact ⟨x, x', by unfold cellH; rw [g1]; rfl, by unfold cellH; rw [g2]; rfl, g3, g4, g5, g6⟩
        refine ⟨by rw [hokF, hokT], fun h j => ?_, fun h j => ?_, fun h j => ?_⟩
        all_goals
          obtain ⟨x, x', e1, e2, g3, g4, g5, g6⟩ := all h
          first | rw [hsF, hsT] | rw [hsF]
          by_cases hj : j = k
          · simp only [hj, if_true, e1, e2]; first | exact g3 | exact g4 | exact ⟨g5, g6⟩
          · simp only [hj, if_false]; first | exact hz j | exact hf j | exact hl j

/-- the model at a cell -/
theorem model_cell {n t d : Nat} {L : Nat → Nat} (h : HtOk n t d L) (k : Nat) (ho : okT n t d L false k = true) :
    (fin (sT n t d L false k) = true → (geT (sT n t d L false k) t = true → floatBits .sub .f32 (sT n t d L false k) d = some (cellR t d (sT n t d L false k))) ∧ (geT (sT n t d L false k) t = false → cellR t d (sT n t d L false k) = sT n t d L false k) ∧
      (fin (cellR t d (sT n t d L false k)) = true → floatBits .quo .f32 (cellR t d (sT n t d L false k)) 1073741824 = some (cellH t d (sT n t d L false k)))) ∧
    okT n t d L false (k + 1) = (fin (sT n t d L false k) && fin (cellR t d (sT n t d L false k))) := by
  have hok : okT n t d L false (k + 1) = (okT n t d L false k && (fin (sT n t d L false k) && fin (cellR t d (sT n t d L false k)))) := rfl
  rw [hok, ho, Bool.true_and]
  generalize sT n t d L false k = s at *
  refine ⟨fun hf => ?_, rfl⟩
  obtain ⟨r1, r2, r3, r4⟩ := rest_same h s s hf (.inl rfl)
  refine ⟨fun hg => (r3 hg).1, fun hg => (r4 hg).1, fun hfr => ?_⟩
  obtain ⟨x, x', g1, _⟩ := half_zeq (cellR t d s) (cellR t d s) hfr (.inl rfl)
  show single.div _ _ = _
  unfold cellH
  rw [g1]; rfl
/-- the program at a cell -/
theorem prog_cell {n t d : Nat} {L : Nat → Nat} (h : HtOk n t d L) (k : Nat) (hk : k < 64) (ho : okT n t d L true k = true) :
    ∃ a s, floatBits .add .f32 (L k) (if n ≤ k then hT n t d L true k (k - n) else 0) = some a ∧ (fin a = false → okT n t d L true (k + 1) = false) ∧
      (fin a = true → floatBits .add .f32 a (if 0 < k % n then hT n t d L true k (k - 1) else 0) = some s) ∧ s = sT n t d L true k ∧
      (fin s = false → okT n t d L true (k + 1) = false) ∧
      (fin s = true → (geT s t = true → fin d = true → floatBits .sub .f32 s d = some (cellR t d s)) ∧ (geT s t = true → fin d = false → okT n t d L true (k + 1) = false) ∧ (geT s t = false → cellR t d s = s) ∧
        ((geT s t = true → fin d = true) → floatBits .quo .f32 (cellR t d s) 1073741824 = some (cellH t d s) ∧ okT n t d L true (k + 1) = true)) := by
  have S := same_all h k (by omega)
  have ho' : okT n t d L false k = true := by rw [S.ok]; exact ho
  have hz := S.zs ho'
  have hf := S.fs ho'
  have hf' : ∀ j, fin (hT n t d L true k j) = true := fun j => by rw [← zeq_fin _ _ (hz j)]; exact hf j
  obtain ⟨l1, l2⟩ := h.lf k hk
  obtain ⟨c1, c2, c3, _⟩ := cellS_same n L _ _ k l1 l2 hz hf
  have hok : okT n t d L true (k + 1) = (okT n t d L true k && (fin (sT n t d L true k) && fin (cellR t d (sT n t d L true k)))) := rfl
  rw [ho, Bool.true_and] at hok
  obtain ⟨a, ha, _⟩ := add_num (L k) (if n ≤ k then hT n t d L true k (k - n) else 0) l1 (by split; exact hf' _; decide)
  have ea : cellA n L (hT n t d L true k) true k = a := by
    unfold cellA
    by_cases hn : n ≤ k
    · rw [if_pos hn] at ha; rw [if_pos hn, ha]; rfl
    · rw [if_neg hn] at ha; rw [if_neg hn, if_pos rfl, ha]; rfl
  have es : fin a = true → floatBits .add .f32 a (if 0 < k % n then hT n t d L true k (k - 1) else 0) = some (sT n t d L true k) := by
    intro hfa
    obtain ⟨s, h1, _⟩ := add_num a (if 0 < k % n then hT n t d L true k (k - 1) else 0) hfa (by split; exact hf' _; decide)
    show single.add _ _ = _
    rw [h1]
    unfold sT cellS
    rw [ea]
    by_cases hn : 0 < k % n
    · rw [if_pos hn] at h1; rw [if_pos hn, h1]; rfl
    · rw [if_neg hn] at h1; rw [if_neg hn, if_pos rfl, h1]; rfl
  have c3' : fin a = false → fin (sT n t d L true k) = false := fun hfa => c3 (by rw [ea]; exact hfa)
  refine ⟨a, sT n t d L true k, ha, fun hfa => by rw [hok, c3' hfa]; rfl, es, rfl, ?_⟩
  rw [hok]
  generalize sT n t d L true k = s at *
  refine ⟨fun hfs => by rw [hfs]; rfl, fun hfs => ?_⟩
  obtain ⟨r1, r2, r3, r4⟩ := rest_same h s s hfs (.inl rfl)
  refine ⟨fun hg _ => (r3 hg).1, fun hg hd => by rw [(r3 hg).2.2, hd, Bool.and_false], fun hg => (r4 hg).1, fun hh => ?_⟩
  have hfr : fin (cellR t d s) = true := by
    cases hg : geT s t
    · rw [(r4 hg).1]; exact hfs
    · rw [(r3 hg).2.2]; exact hh hg
  obtain ⟨x, x', g1, _⟩ := half_zeq (cellR t d s) (cellR t d s) hfr (.inl rfl)
  refine ⟨?_, by rw [hfs, hfr]; rfl⟩
  show single.div _ _ = _
  unfold cellH
  rw [g1]; rfl
/-- the marks -/
def dot (n t d : Nat) (L : Nat → Nat) (z : Bool) (k : Nat) : Nat × Nat := mark (geT (sT n t d L z k) t)
theorem dot_same {n t d : Nat} {L : Nat → Nat} (h : HtOk n t d L) (k : Nat) (hk : k < 64) (ho : okT n t d L false (k + 1) = true) : dot n t d L false k = dot n t d L true k := by
  have hok : okT n t d L false (k + 1) = (okT n t d L false k && (fin (sT n t d L false k) && fin (cellR t d (sT n t d L false k)))) := rfl
  rw [hok, Bool.and_eq_true, Bool.and_eq_true] at ho
  have S := same_all h k (by omega)
  obtain ⟨l1, l2⟩ := h.lf k hk
  obtain ⟨c1, c2, c3, _⟩ := cellS_same n L _ _ k l1 l2 (S.zs ho.1) (S.fs ho.1)
  unfold dot
  rw [geT_zeq _ _ t ho.2.1 (c2 ho.2.1).1]
  rfl

/-- the model's sums when k cells are done -/
def sm (n t d : Nat) (L : Nat → Nat) (k j : Nat) : Nat := if j = k then sT n t d L false k else if j < k + n then cellA n L (hT n t d L false k) false j else L j
theorem sm_zero (n t d : Nat) (L : Nat → Nat) (hn : 0 < n) (j : Nat) : sm n t d L 0 j = L j := by
  unfold sm
  by_cases h : j = 0
  · subst h
    rw [if_pos rfl]
    unfold sT cellS cellA
    rw [Nat.zero_mod, if_neg (by omega), if_neg (by decide), if_neg (by omega), if_neg (by decide)]
  · rw [if_neg h]
    split
    · unfold cellA
      rw [if_neg (by omega), if_neg (by decide)]
    · rfl
theorem hT_at (n t d : Nat) (L : Nat → Nat) (z : Bool) (k : Nat) : hT n t d L z (k + 1) k = cellH t d (sT n t d L z k) := by
  show (if k = k then _ else _) = _
  rw [if_pos rfl]; rfl
theorem hT_other (n t d : Nat) (L : Nat → Nat) (z : Bool) (k j : Nat) (h : j ≠ k) : hT n t d L z (k + 1) j = hT n t d L z k j := by
  show (if j = k then _ else _) = _
  rw [if_neg h]
theorem cellA_old (n t d : Nat) (L : Nat → Nat) (z : Bool) (k j : Nat) (h : j ≠ k + n) : cellA n L (hT n t d L z (k + 1)) z j = cellA n L (hT n t d L z k) z j := by
  unfold cellA
  by_cases hn : n ≤ j
  · rw [if_pos hn, if_pos hn, hT_other _ _ _ _ _ _ _ (by omega)]
  · rw [if_neg hn, if_neg hn]
/-- the sum to the right -/
theorem sm_right {n t d : Nat} {L : Nat → Nat} (h : HtOk n t d L) (k : Nat) (hk : k + 1 < 64) (hn : 2 ≤ n) (hr : 0 < (k + 1) % n) (ho : okT n t d L false (k + 1) = true) :
    floatBits .add .f32 (sm n t d L k (k + 1)) (cellH t d (sT n t d L false k)) = some (sm n t d L (k + 1) (k + 1)) := by
  have S := same_all h (k + 1) (by omega)
  obtain ⟨l1, l2⟩ := h.lf (k + 1) hk
  obtain ⟨a1, a2, a3, a4⟩ := cellA_same n L _ _ (k + 1) l1 l2 (S.zs ho) (S.fs ho)
  have hH := S.fs ho k
  rw [hT_at] at hH
  have e1 : sm n t d L k (k + 1) = cellA n L (hT n t d L false (k + 1)) false (k + 1) := by
    unfold sm
    rw [if_neg (by omega), if_pos (by omega), cellA_old _ _ _ _ _ _ _ (by omega)]
  have e2 : sm n t d L (k + 1) (k + 1) = (single.add (cellA n L (hT n t d L false (k + 1)) false (k + 1)) (cellH t d (sT n t d L false k))).getD 0 := by
    unfold sm
    rw [if_pos rfl]
    show cellS n L (hT n t d L false (k + 1)) false (k + 1) = _
    unfold cellS
    rw [if_pos hr, show k + 1 - 1 = k from rfl, hT_at]
  rw [e1, e2]
  show single.add _ _ = _
  generalize cellA n L (hT n t d L false (k + 1)) false (k + 1) = A at *
  cases hA : fin A
  · obtain ⟨r, h1, _⟩ := add_inf A _ a2 hA hH
    rw [h1]; rfl
  · obtain ⟨r, h1, _⟩ := add_num A _ hA hH
    rw [h1]; rfl
/-- the sum below -/
theorem sm_below {n t d : Nat} {L : Nat → Nat} (h : HtOk n t d L) (k : Nat) (hk : k + n < 64) (hn : 2 ≤ n) (ho : okT n t d L false (k + 1) = true) :
    floatBits .add .f32 (sm n t d L k (k + n)) (cellH t d (sT n t d L false k)) = some (sm n t d L (k + 1) (k + n)) := by
  have S := same_all h (k + 1) (by omega)
  obtain ⟨l1, l2⟩ := h.lf (k + n) hk
  have hH := S.fs ho k
  rw [hT_at] at hH
  have e1 : sm n t d L k (k + n) = L (k + n) := by
    unfold sm
    rw [if_neg (by omega), if_neg (by omega)]
  have e2 : sm n t d L (k + 1) (k + n) = (single.add (L (k + n)) (cellH t d (sT n t d L false k))).getD 0 := by
    unfold sm
    rw [if_neg (by omega), if_pos (by omega)]
    unfold cellA
    rw [if_pos (by omega), Nat.add_sub_cancel, hT_at]
  rw [e1, e2]
  show single.add _ _ = _
  obtain ⟨r, h1, _⟩ := add_num _ _ l1 hH
  rw [h1]; rfl
/-- the sums that stay -/
theorem sm_stay (n t d : Nat) (L : Nat → Nat) (k j : Nat) (h1 : k < j) (h2 : j ≠ k + n) (h3 : j = k + 1 → (k + 1) % n = 0) (h4 : j = k + 1 → 2 ≤ n) : sm n t d L (k + 1) j = sm n t d L k j := by
  unfold sm
  by_cases h : j = k + 1
  · subst h
    rw [if_pos rfl, if_neg (by omega), if_pos (by have := h4 rfl; omega)]
    show cellS n L (hT n t d L false (k + 1)) false (k + 1) = _
    unfold cellS
    rw [if_neg (by rw [h3 rfl]; omega), if_neg (by decide), cellA_old _ _ _ _ _ _ _ h2]
  · have h6 : ¬ j = k := by omega
    rw [if_neg h, if_neg h6]
    by_cases h5 : j < k + n
    · rw [if_pos (by omega), if_pos h5, cellA_old _ _ _ _ _ _ _ h2]
    · rw [if_neg (by omega), if_neg h5]
end Go.Proofs.YtjmfffgddmnkmabDoor
