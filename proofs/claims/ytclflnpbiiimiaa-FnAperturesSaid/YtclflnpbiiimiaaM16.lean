/- Sums of products with an early end, and lists of such sums: what they are. Condition: none. The model's sums by codes. Condition: a list of numbers whose length is a power of two up to 64. -/
import Derived.Test.YtclflnpbiiimiaaKd
import Derived.Test.YtclflnpbiiimiaaM13
import Derived.BigQuiet
namespace Go.Proofs.Ytclflnpbiiimiaa
open Go Go.RowKit Ieee

def mulF (x y : Nat) : Nat := (single.mul x y).getD 0
theorem mulF_fin (x y : Nat) (hx : fin x = true) (hy : fin y = true) : single.mul x y = some (mulF x y) ∧ NotNan (mulF x y) := by
  obtain ⟨s, m, p, hr, _⟩ := fin_read x hx
  obtain ⟨t, n, q, hq, _⟩ := fin_read y hy
  have h : single.mul x y = some (single.nearest (s ^^ t) (m * n) (p + q)) := by
    unfold Format.mul
    rw [hr, hq]
    rfl
  unfold mulF
  rw [h]
  exact ⟨rfl, notnan_near _ _ _⟩
theorem addF_num (s p : Nat) (hs : fin s = true) (hp : NotNan p) : single.add s p = some (addF s p) := by
  obtain ⟨t, m, i, hr, _⟩ := fin_read s hs
  have h : ∃ r, single.add s p = some r := by
    unfold Format.add
    rw [hr]
    rcases hp with ⟨u, n, j, h⟩ | ⟨u, h⟩
    · rw [h]; exact ⟨_, rfl⟩
    · rw [h]; exact ⟨_, rfl⟩
  obtain ⟨r, h⟩ := h
  unfold addF
  rw [h]
  rfl

/-- the sum of the first j numbers of f from 0 on, if it is finite all the way -/
def accTo (f : Nat → Nat) : Nat → Option Nat
  | 0 => some 0
  | j + 1 => (accTo f j).bind fun s => if fin (addF s (f j)) = true then some (addF s (f j)) else none
theorem acc_step {f : Nat → Nat} {j s : Nat} (h : accTo f j = some s) (hf : fin (addF s (f j)) = true) : accTo f (j + 1) = some (addF s (f j)) := by
  rw [accTo, h, Option.bind_some, if_pos hf]
theorem acc_stop {f : Nat → Nat} {j s : Nat} (h : accTo f j = some s) (hf : fin (addF s (f j)) = false) : accTo f (j + 1) = none := by
  rw [accTo, h, Option.bind_some, if_neg (by rw [hf]; decide)]
theorem acc_none {f : Nat → Nat} {j : Nat} (h : accTo f j = none) : ∀ d, accTo f (j + d) = none
  | 0 => h
  | d + 1 => by rw [← Nat.add_assoc, accTo, acc_none h d, Option.bind_none]
theorem acc_end {f : Nat → Nat} {j n : Nat} (h : accTo f j = none) (hj : j ≤ n) : accTo f n = none := by
  have := acc_none h (n - j)
  rwa [show j + (n - j) = n by omega] at this
theorem acc_fin {f : Nat → Nat} : ∀ {j s : Nat}, accTo f j = some s → fin s = true
  | 0, s, h => by
    rw [accTo] at h
    cases h
    decide
  | j + 1, s, h => by
    rw [accTo] at h
    cases h1 : accTo f j with
    | none => rw [h1, Option.bind_none] at h; cases h
    | some u =>
      rw [h1, Option.bind_some] at h
      split at h
      · rename_i hf
        cases h
        exact hf
      · cases h

/-- the first k numbers of F, if there are all -/
def rowsTo (F : Nat → Option Nat) : Nat → Option (List Nat)
  | 0 => some []
  | k + 1 => (rowsTo F k).bind fun R => (F k).bind fun s => some (R ++ [s])
theorem rows_step {F : Nat → Option Nat} {k s : Nat} {R : List Nat} (h : rowsTo F k = some R) (hs : F k = some s) : rowsTo F (k + 1) = some (R ++ [s]) := by
  rw [rowsTo, h, Option.bind_some, hs, Option.bind_some]
theorem rows_stop {F : Nat → Option Nat} {k : Nat} (hs : F k = none) : rowsTo F (k + 1) = none := by
  rw [rowsTo]
  cases rowsTo F k with
  | none => rfl
  | some R => rw [Option.bind_some, hs, Option.bind_none]
theorem rows_none {F : Nat → Option Nat} {k : Nat} (h : rowsTo F k = none) : ∀ d, rowsTo F (k + d) = none
  | 0 => h
  | d + 1 => by rw [← Nat.add_assoc, rowsTo, rows_none h d, Option.bind_none]
theorem rows_end {F : Nat → Option Nat} {k n : Nat} (h : F k = none) (hk : k < n) : rowsTo F n = none := by
  have := rows_none (rows_stop h) (n - (k + 1))
  rwa [show k + 1 + (n - (k + 1)) = n by omega] at this
theorem rows_len {F : Nat → Option Nat} : ∀ {k : Nat} {R : List Nat}, rowsTo F k = some R → R.length = k
  | 0, R, h => by rw [rowsTo] at h; cases h; rfl
  | k + 1, R, h => by
    rw [rowsTo] at h
    cases h1 : rowsTo F k with
    | none => rw [h1, Option.bind_none] at h; cases h
    | some R1 =>
      rw [h1, Option.bind_some] at h
      cases h2 : F k with
      | none => rw [h2, Option.bind_none] at h; cases h
      | some s =>
        rw [h2, Option.bind_some] at h
        cases h
        rw [List.length_append, rows_len h1]
        rfl
/-- the code and the list of an answer -/
def ansC (o : Option (List Nat)) : Int := if o.isSome then 0 else 3
def ansL (o : Option (List Nat)) : List Nat := o.getD []

/-- the correlation at k -/
def corF (A B : List Nat) (k : Nat) : Nat → Nat := fun j => mulF (A.getD j 0) (B.getD ((j + k) % B.length) 0)
def cor (A B : List Nat) : Option (List Nat) := rowsTo (fun k => accTo (corF A B k) A.length) A.length

/-- what is asked of a function of two lists -/
def Lists2F (f : FuncId) (A B R : List Nat) (c : Int) : Prop :=
  A.length ≤ 1048576 → B.length ≤ 1048576 → ∀ u v w, OwnF 0 u A w → OwnF 0 v B w → Calls Try.prog f #[u, v] w fun e w' => ∃ r, e = .returned (.tuple #[r, .int .i64 c]) ∧ OwnF w.heap.size r R w' ∧ Below w.heap.size w w'
def clOk (A B : List Nat) : Bool := decide (A.length = B.length) && (decide (1 ≤ A.length) && decide (A.length ≤ 64))
def clCode (A B : List Nat) : Int := if A.all fin = false then 1 else if B.all fin = false then 1 else if clOk A B = false then 2 else ansC (cor A B)
def clList (A B : List Nat) : List Nat := if A.all fin = false then [] else if B.all fin = false then [] else if clOk A B = false then [] else ansL (cor A B)
theorem cl_len (A B : List Nat) : (clList A B).length ≤ 64 := by
  unfold clList
  split
  · simp
  · split
    · simp
    · split
      · simp
      · rename_i h
        unfold clOk at h
        simp only [Bool.and_eq_false_iff, decide_eq_false_iff_not, not_or, Decidable.not_not] at h
        unfold ansL
        cases hc : cor A B with
        | none => simp
        | some R =>
          have := rows_len hc
          simp
          omega

end Go.Proofs.Ytclflnpbiiimiaa

namespace Go.Proofs.Ytclflnpbiiimiaa
open Go Go.RowKit Ieee

set_option maxRecDepth 100000 in
set_option maxHeartbeats 800000 in
theorem l10Fine_any (ad : Option Addr) (n cap : Nat) (L : List Nat) (w : World) (h : CameF ad n L w) (hn : n ≤ 1048576) :
    Calls Try.prog 45 #[.slice ad n cap] w fun e w' => e = .returned (.bool (L.all fin)) ∧ ∃ d, w' = w.drewN d := by
  have H1 := Lib.hid h
  have HL := Lib.hid h.1
  clear h
  go_enter Try.func45, Try.ntmps45
  go_wp2
  go_loopw [3] (fun i wr => ∃ k : Nat, k ≤ n ∧ i = .int .i64 k ∧ Hid (∀ j, j < k → fin (L.getD j 0) = true) ∧ Hid (∃ d, wr = w.drewN d)) (fun i _ => n - (intOf i).toNat)
  case atStart => exact ⟨0, by omega, rfl, Lib.hid (fun j hj => by omega), Lib.hid ⟨0, rfl⟩⟩
  case round =>
    obtain ⟨k, hk, rfl, HF, HW⟩ := hrel
    by_cases hlt : k < n
    · have hdk : decide ((k : Int) < (n : Int)) = true := by simp; omega
      obtain ⟨b1, o1, rfl, hb1, hc1⟩ := H1.out.2 (by omega)
      have p1 : wr.cell? ⟨b1, o1 + k, none⟩ = some (.float .f32 (L.getD k 0)) := by obtain ⟨d, rfl⟩ := HW.out; rw [World.cell?_drewN]; exact hc1 k hlt
      clear hb1 hc1
      obtain ⟨x, hx⟩ : ∃ x, x = L.getD k 0 := ⟨_, rfl⟩
      rw [← hx] at p1
      have HX := Lib.hid hx
      clear hx
      go_wp2_with fail
      refine (fine_any x _).mono ?_
      rintro e w1 ⟨rfl, d, rfl⟩
      have HW2 : Hid (∃ d', wr.drewN d = w.drewN d') := Lib.hid (by obtain ⟨d0, h0⟩ := HW.out; exact ⟨_, by rw [h0, World.drewN_drewN]⟩)
      generalize wr.drewN d = w1 at *
      cases hfx : fin x
      · have HN := Lib.hid (all_no (f := fin) k (by rw [HL.out]; exact hlt) (by rw [← HX.out]; exact hfx))
        go_wp2
        go_ret
        exact ⟨by rw [HN.out]; rfl, HW2.out⟩
      · have HF2 : Hid (∀ j, j < k + 1 → fin (L.getD j 0) = true) := Lib.hid (fun j hj => by
          rcases Nat.lt_or_ge j k with h | h
          · exact HF.out j h
          · obtain rfl : j = k := by omega
            rw [← HX.out]; exact hfx)
        go_wp2
        exact ⟨⟨k + 1, by omega, by go_num, HF2, HW2⟩, by simp [intOf]; omega⟩
    · obtain rfl : k = n := by omega
      have HA := Lib.hid (all_yes (f := fin) (L := L) (fun i hi => HF.out i (by rw [HL.out] at hi; exact hi)))
      go_wp2
      go_ret
      exact ⟨by rw [HA.out]; rfl, HW.out⟩

/-- a sum, or a difference, in a world at hand -/
theorem add_at (x y : Nat) (u : World) : ∃ r d, (binOp .add 40 (.float .f32 x) (.float .f32 y)).run Try.prog u = .ok (.float .f32 r) (u.drewN d) ∧ ((fin x = true ∧ fin y = true ∧ r = addF x y) ∨ ((fin x = false ∨ fin y = false) ∧ fin r = false)) := by
  rcases add_run x y with ⟨h1, h2, h3⟩ | ⟨h1, ⟨r, h2, h3⟩ | h3⟩
  · exact ⟨_, 0, h3 u, .inl ⟨h1, h2, rfl⟩⟩
  · exact ⟨r, 0, h3 u, .inr ⟨h1, h2⟩⟩
  · exact ⟨_, 1, h3 u, .inr ⟨h1, nan_fin _⟩⟩
theorem sub_at (x y : Nat) (u : World) : ∃ r d, (binOp .sub 40 (.float .f32 x) (.float .f32 y)).run Try.prog u = .ok (.float .f32 r) (u.drewN d) ∧ ((fin x = true ∧ fin y = true ∧ r = subF x y) ∨ ((fin x = false ∨ fin y = false) ∧ fin r = false)) := by
  rcases sub_run x y with ⟨h1, h2, h3⟩ | ⟨h1, ⟨r, h2, h3⟩ | h3⟩
  · exact ⟨_, 0, h3 u, .inl ⟨h1, h2, rfl⟩⟩
  · exact ⟨r, 0, h3 u, .inr ⟨h1, h2⟩⟩
  · exact ⟨_, 1, h3 u, .inr ⟨h1, nan_fin _⟩⟩

/-- where a round is on its way: the numbers of the round, or some that are not all finite -/
def Way (L : List Nat) (t i : Nat) (M : List Nat) : Prop := M.length = L.length ∧ ((okRnd L t = true ∧ M = mix (rnds L t) (2 ^ t) i) ∨ (okRnd L t = false ∧ M.all fin = false))
theorem way_start (L M : List Nat) (t : Nat) (h : M.length = L.length ∧ ((okRnd L t = true ∧ M = rnds L t) ∨ (okRnd L t = false ∧ M.all fin = false))) : Way L t 0 M := by
  unfold Way
  rw [mix_zero]
  exact h
theorem way_end (L M : List Nat) (t : Nat) (h : Way L t L.length M) : M.length = L.length ∧ ((okRnd L (t + 1) = true ∧ M = rnds L (t + 1)) ∨ (okRnd L (t + 1) = false ∧ M.all fin = false)) := by
  obtain ⟨h1, h2⟩ := h
  refine ⟨h1, ?_⟩
  rw [okRnd_succ]
  rcases h2 with ⟨h2, h3⟩ | ⟨h2, h3⟩
  · rw [← rnds_len L t, mix_all] at h3
    rw [h2, Bool.true_and]
    cases hf : (rnds L (t + 1)).all fin
    · exact .inr ⟨rfl, by rw [h3]; exact hf⟩
    · exact .inl ⟨rfl, h3⟩
  · rw [h2]
    exact .inr ⟨rfl, h3⟩
theorem way_skip (L M : List Nat) (t i : Nat) (h : Way L t i M) (hi : i / 2 ^ t % 2 ≠ 0) : Way L t (i + 1) M := by
  unfold Way at h ⊢
  rw [mix_skip _ _ _ (Nat.pow_pos (by omega)) hi]
  exact h
theorem way_step (L M : List Nat) (t i r1 r2 : Nat) (h : Way L t i M) (hi : i / 2 ^ t % 2 = 0) (hih : i + 2 ^ t < L.length)
    (h1 : (fin (M.getD i 0) = true ∧ fin (M.getD (i + 2 ^ t) 0) = true ∧ r1 = addF (M.getD i 0) (M.getD (i + 2 ^ t) 0)) ∨ ((fin (M.getD i 0) = false ∨ fin (M.getD (i + 2 ^ t) 0) = false) ∧ fin r1 = false))
    (h2 : (fin (M.getD i 0) = true ∧ fin (M.getD (i + 2 ^ t) 0) = true ∧ r2 = subF (M.getD i 0) (M.getD (i + 2 ^ t) 0)) ∨ ((fin (M.getD i 0) = false ∨ fin (M.getD (i + 2 ^ t) 0) = false) ∧ fin r2 = false)) :
    Way L t (i + 1) ((M.set i r1).set (i + 2 ^ t) r2) := by
  have hp : 0 < 2 ^ t := Nat.pow_pos (by omega)
  obtain ⟨hl, hM⟩ := h
  refine ⟨by rw [List.length_set, List.length_set, hl], ?_⟩
  rcases hM with ⟨ho, hM⟩ | ⟨ho, hM⟩
  · left
    refine ⟨ho, ?_⟩
    have hih2 : i + 2 ^ t < (rnds L t).length := by rw [rnds_len]; exact hih
    obtain ⟨e1, e2⟩ := mix_old (rnds L t) (2 ^ t) i hp hi hih2
    have f1 := all_at (okRnd_last ho) i (by omega)
    have f2 := all_at (okRnd_last ho) (i + 2 ^ t) hih2
    rw [hM, e1, e2] at h1 h2
    rcases h1 with ⟨_, _, h1⟩ | ⟨h1 | h1, _⟩
    · rcases h2 with ⟨_, _, h2⟩ | ⟨h2 | h2, _⟩
      · rw [hM, h1, h2]
        exact mix_step (rnds L t) (2 ^ t) i hp hi hih2
      · rw [f1] at h2; cases h2
      · rw [f2] at h2; cases h2
    · rw [f1] at h1; cases h1
    · rw [f2] at h1; cases h1
  · right
    refine ⟨ho, bad_set (by omega) (by omega) (by omega) hM ?_⟩
    rcases h1 with ⟨g1, g2, _⟩ | ⟨_, g⟩
    · exact .inl ⟨g1, g2⟩
    · exact .inr g

end Go.Proofs.Ytclflnpbiiimiaa
