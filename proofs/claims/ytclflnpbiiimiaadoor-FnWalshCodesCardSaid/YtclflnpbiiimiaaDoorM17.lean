/- Sums of products with an early end, and lists of such sums: what they are. Condition: none. The model's sums by codes. Condition: a list of numbers whose length is a power of two up to 64. -/
import Derived.Test.YtclflnpbiiimiaaDoorKd
import Derived.Test.YtclflnpbiiimiaaDoorM14
import Derived.BigQuiet
namespace Go.Proofs.YtclflnpbiiimiaaDoor
open Go Go.RowKit Ieee

def mulF (x y : Nat) : Nat := (single.mul x y).getD 0
theorem mulF_fin (x y : Nat) (hx : fin x = true) (hy : fin y = true) : single.mul x y = some (mulF x y) ∧ NotNan (mulF x y) := by
  obtain ⟨s, m, p, hr, _⟩ := fin_read x hx
  obtain ⟨t, n, q, hq, _⟩ := fin_read y hy
  have h : single.mul x y = some (single.nearest (s ^^ t) (m * n) (p + q)) := by
    unfold Format.mul
    rw [hr, hq]
    rfl
  unfold mulF
  rw [h]
  exact ⟨rfl, notnan_near _ _ _⟩
theorem addF_num (s p : Nat) (hs : fin s = true) (hp : NotNan p) : single.add s p = some (addF s p) := by
  obtain ⟨t, m, i, hr, _⟩ := fin_read s hs
  have h : ∃ r, single.add s p = some r := by
    unfold Format.add
    rw [hr]
    rcases hp with ⟨u, n, j, h⟩ | ⟨u, h⟩
    · rw [h]; exact ⟨_, rfl⟩
    · rw [h]; exact ⟨_, rfl⟩
  obtain ⟨r, h⟩ := h
  unfold addF
  rw [h]
  rfl

/-- the sum of the first j numbers of f from 0 on, if it is finite all the way -/
def accTo (f : Nat → Nat) : Nat → Option Nat
  | 0 => some 0
  | j + 1 => (accTo f j).bind fun s => if fin (addF s (f j)) = true then some (addF s (f j)) else none
theorem acc_step {f : Nat → Nat} {j s : Nat} (h : accTo f j = some s) (hf : fin (addF s (f j)) = true) : accTo f (j + 1) = some (addF s (f j)) := by
  rw [accTo, h, Option.bind_some, if_pos hf]
theorem acc_stop {f : Nat → Nat} {j s : Nat} (h : accTo f j = some s) (hf : fin (addF s (f j)) = false) : accTo f (j + 1) = none := by
  rw [accTo, h, Option.bind_some, if_neg (by rw [hf]; decide)]
theorem acc_none {f : Nat → Nat} {j : Nat} (h : accTo f j = none) : ∀ d, accTo f (j + d) = none
  | 0 => h
  | d + 1 => by rw [← Nat.add_assoc, accTo, acc_none h d, Option.bind_none]
theorem acc_end {f : Nat → Nat} {j n : Nat} (h : accTo f j = none) (hj : j ≤ n) : accTo f n = none := by
  have := acc_none h (n - j)
  rwa [show j + (n - j) = n by omega] at this
theorem acc_fin {f : Nat → Nat} : ∀ {j s : Nat}, accTo f j = some s → fin s = true
  | 0, s, h => by
    rw [accTo] at h
    cases h
    decide
  | j + 1, s, h => by
    rw [accTo] at h
    cases h1 : accTo f j with
    | none => rw [h1, Option.bind_none] at h; cases h
    | some u =>
      rw [h1, Option.bind_some] at h
      split at h
      · rename_i hf
        cases h
        exact hf
      · cases h

/-- the first k numbers of F, if there are all -/
def rowsTo (F : Nat → Option Nat) : Nat → Option (List Nat)
  | 0 => some []
  | k + 1 => (rowsTo F k).bind fun R => (F k).bind fun s => some (R ++ [s])
theorem rows_step {F : Nat → Option Nat} {k s : Nat} {R : List Nat} (h : rowsTo F k = some R) (hs : F k = some s) : rowsTo F (k + 1) = some (R ++ [s]) := by
  rw [rowsTo, h, Option.bind_some, hs, Option.bind_some]
theorem rows_stop {F : Nat → Option Nat} {k : Nat} (hs : F k = none) : rowsTo F (k + 1) = none := by
  rw [rowsTo]
  cases rowsTo F k with
  | none => rfl
  | some R => rw [Option.bind_some, hs, Option.bind_none]
theorem rows_none {F : Nat → Option Nat} {k : Nat} (h : rowsTo F k = none) : ∀ d, rowsTo F (k + d) = none
  | 0 => h
  | d + 1 => by rw [← Nat.add_assoc, rowsTo, rows_none h d, Option.bind_none]
theorem rows_end {F : Nat → Option Nat} {k n : Nat} (h : F k = none) (hk : k < n) : rowsTo F n = none := by
  have := rows_none (rows_stop h) (n - (k + 1))
  rwa [show k + 1 + (n - (k + 1)) = n by omega] at this
theorem rows_len {F : Nat → Option Nat} : ∀ {k : Nat} {R : List Nat}, rowsTo F k = some R → R.length = k
  | 0, R, h => by rw [rowsTo] at h; cases h; rfl
  | k + 1, R, h => by
    rw [rowsTo] at h
    cases h1 : rowsTo F k with
    | none => rw [h1, Option.bind_none] at h; cases h
    | some R1 =>
      rw [h1, Option.bind_some] at h
      cases h2 : F k with
      | none => rw [h2, Option.bind_none] at h; cases h
      | some s =>
        rw [h2, Option.bind_some] at h
        cases h
        rw [List.length_append, rows_len h1]
        rfl
/-- the code and the list of an answer -/
def ansC (o : Option (List Nat)) : Int := if o.isSome then 0 else 3
def ansL (o : Option (List Nat)) : List Nat := o.getD []

/-- the correlation at k -/
def corF (A B : List Nat) (k : Nat) : Nat → Nat := fun j => mulF (A.getD j 0) (B.getD ((j + k) % B.length) 0)
def cor (A B : List Nat) : Option (List Nat) := rowsTo (fun k => accTo (corF A B k) A.length) A.length

/-- what is asked of a function of two lists -/
def Lists2F (f : FuncId) (A B R : List Nat) (c : Int) : Prop :=
  A.length ≤ 1048576 → B.length ≤ 1048576 → ∀ u v w, OwnF 0 u A w → OwnF 0 v B w → Calls Tryd.prog f #[u, v] w fun e w' => ∃ r, e = .returned (.tuple #[r, .int .i64 c]) ∧ OwnF w.heap.size r R w' ∧ Below w.heap.size w w'
def clOk (A B : List Nat) : Bool := decide (A.length = B.length) && (decide (1 ≤ A.length) && decide (A.length ≤ 64))
def clCode (A B : List Nat) : Int := if A.all fin = false then 1 else if B.all fin = false then 1 else if clOk A B = false then 2 else ansC (cor A B)
def clList (A B : List Nat) : List Nat := if A.all fin = false then [] else if B.all fin = false then [] else if clOk A B = false then [] else ansL (cor A B)
theorem cl_len (A B : List Nat) : (clList A B).length ≤ 64 := by
  unfold clList
  split
  · simp
  · split
    · simp
    · split
      · simp
      · rename_i h
        unfold clOk at h
        simp only [Bool.and_eq_false_iff, decide_eq_false_iff_not, not_or, Decidable.not_not] at h
        unfold ansL
        cases hc : cor A B with
        | none => simp
        | some R =>
          have := rows_len hc
          simp
          omega

end Go.Proofs.YtclflnpbiiimiaaDoor

namespace Go.Proofs.YtclflnpbiiimiaaDoor
open Go Go.RowKit Ieee

set_option maxRecDepth 100000 in
set_option maxHeartbeats 800000 in
theorem l10Fine_any (ad : Option Addr) (n cap : Nat) (L : List Nat) (w : World) (h : CameF ad n L w) (hn : n ≤ 1048576) :
    Calls Tryd.prog 46 #[.slice ad n cap] w fun e w' => e = .returned (.bool (L.all fin)) ∧ ∃ d, w' = w.drewN d := by
  have H1 := Lib.hid h
  have HL := Lib.hid h.1
  clear h
  go_enter Tryd.func46, Tryd.ntmps46
  go_wp2
  go_loopw [3] (fun i wr => ∃ k : Nat, k ≤ n ∧ i = .int .i64 k ∧ Hid (∀ j, j < k → fin (L.getD j 0) = true) ∧ Hid (∃ d, wr = w.drewN d)) (fun i _ => n - (intOf i).toNat)
  case atStart => exact ⟨0, by omega, rfl, Lib.hid (fun j hj => by omega), Lib.hid ⟨0, rfl⟩⟩
  case round =>
    obtain ⟨k, hk, rfl, HF, HW⟩ := hrel
    by_cases hlt : k < n
    · have hdk : decide ((k : Int) < (n : Int)) = true := by simp; omega
      obtain ⟨b1, o1, rfl, hb1, hc1⟩ := H1.out.2 (by omega)
      have p1 : wr.cell? ⟨b1, o1 + k, none⟩ = some (.float .f32 (L.getD k 0)) := by obtain ⟨d, rfl⟩ := HW.out; rw [World.cell?_drewN]; exact hc1 k hlt
      clear hb1 hc1
      obtain ⟨x, hx⟩ : ∃ x, x = L.getD k 0 := ⟨_, rfl⟩
      rw [← hx] at p1
      have HX := Lib.hid hx
      clear hx
      go_wp2_with fail
      refine (fine_any x _).mono ?_
      rintro e w1 ⟨rfl, d, rfl⟩
      have HW2 : Hid (∃ d', wr.drewN d = w.drewN d') := Lib.hid (by obtain ⟨d0, h0⟩ := HW.out; exact ⟨_, by rw [h0, World.drewN_drewN]⟩)
      generalize wr.drewN d = w1 at *
      cases hfx : fin x
      · have HN := Lib.hid (all_no (f := fin) k (by rw [HL.out]; exact hlt) (by rw [← HX.out]; exact hfx))
        go_wp2
        go_ret
        exact ⟨by rw [HN.out]; rfl, HW2.out⟩
      · have HF2 : Hid (∀ j, j < k + 1 → fin (L.getD j 0) = true) := Lib.hid (fun j hj => by
          rcases Nat.lt_or_ge j k with h | h
          · exact HF.out j h
          · obtain rfl : j = k := by omega
            rw [← HX.out]; exact hfx)
        go_wp2
        exact ⟨⟨k + 1, by omega, by go_num, HF2, HW2⟩, by simp [intOf]; omega⟩
    · obtain rfl : k = n := by omega
      have HA := Lib.hid (all_yes (f := fin) (L := L) (fun i hi => HF.out i (by rw [HL.out] at hi; exact hi)))
      go_wp2
      go_ret
      exact ⟨by rw [HA.out]; rfl, HW.out⟩

/-- a sum, or a difference, in a world at hand -/
theorem add_at (x y : Nat) (u : World) : ∃ r d, (binOp .add 38 (.float .f32 x) (.float .f32 y)).run Tryd.prog u = .ok (.float .f32 r) (u.drewN d) ∧ ((fin x = true ∧ fin y = true ∧ r = addF x y) ∨ ((fin x = false ∨ fin y = false) ∧ fin r = false)) := by
  rcases add_run x y with ⟨h1, h2, h3⟩ | ⟨h1, ⟨r, h2, h3⟩ | h3⟩
  · exact ⟨_, 0, h3 u, .inl ⟨h1, h2, rfl⟩⟩
  · exact ⟨r, 0, h3 u, .inr ⟨h1, h2⟩⟩
  · exact ⟨_, 1, h3 u, .inr ⟨h1, nan_fin _⟩⟩
theorem sub_at (x y : Nat) (u : World) : ∃ r d, (binOp .sub 38 (.float .f32 x) (.float .f32 y)).run Tryd.prog u = .ok (.float .f32 r) (u.drewN d) ∧ ((fin x = true ∧ fin y = true ∧ r = subF x y) ∨ ((fin x = false ∨ fin y = false) ∧ fin r = false)) := by
  rcases sub_run x y with ⟨h1, h2, h3⟩ | ⟨h1, ⟨r, h2, h3⟩ | h3⟩
  · exact ⟨_, 0, h3 u, .inl ⟨h1, h2, rfl⟩⟩
  · exact ⟨r, 0, h3 u, .inr ⟨h1, h2⟩⟩
  · exact ⟨_, 1, h3 u, .inr ⟨h1, nan_fin _⟩⟩

/-- where a round is on its way: the numbers of the round, or some that are not all finite -/
def Way (L : List Nat) (t i : Nat) (M : List Nat) : Prop := M.length = L.length ∧ ((okRnd L t = true ∧ M = mix (rnds L t) (2 ^ t) i) ∨ (okRnd L t = false ∧ M.all fin = false))
theorem way_start (L M : List Nat) (t : Nat) (h : M.length = L.length ∧ ((okRnd L t = true ∧ M = rnds L t) ∨ (okRnd L t = false ∧ M.all fin = false))) : Way L t 0 M := by
  unfold Way
  rw [mix_zero]
  exact h
theorem way_end (L M : List Nat) (t : Nat) (h : Way L t L.length M) : M.length = L.length ∧ ((okRnd L (t + 1) = true ∧ M = rnds L (t + 1)) ∨ (okRnd L (t + 1) = false ∧ M.all fin = false)) := by
  obtain ⟨h1, h2⟩ := h
  refine ⟨h1, ?_⟩
  rw [okRnd_succ]
  rcases h2 with ⟨h2, h3⟩ | ⟨h2, h3⟩
  · rw [← rnds_len L t, mix_all] at h3
    rw [h2, Bool.true_and]
    cases hf : (rnds L (t + 1)).all fin
    · exact .inr ⟨rfl, by rw [h3]; exact hf⟩
    · exact .inl ⟨rfl, h3⟩
  · rw [h2]
    exact .inr ⟨rfl, h3⟩
theorem way_skip (L M : List Nat) (t i : Nat) (h : Way L t i M) (hi : i / 2 ^ t % 2 ≠ 0) : Way L t (i + 1) M := by
  unfold Way at h ⊢
  rw [mix_skip _ _ _ (Nat.pow_pos (by omega)) hi]
  exact h
theorem way_step (L M : List Nat) (t i r1 r2 : Nat) (h : Way L t i M) (hi : i / 2 ^ t % 2 = 0) (hih : i + 2 ^ t < L.length)
    (h1 : (fin (M.getD i 0) = true ∧ fin (M.getD (i + 2 ^ t) 0) = true ∧ r1 = addF (M.getD i 0) (M.getD (i + 2 ^ t) 0)) ∨ ((fin (M.getD i 0) = false ∨ fin (M.getD (i + 2 ^ t) 0) = false) ∧ fin r1 = false))
    (h2 : (fin (M.getD i 0) = true ∧ fin (M.getD (i + 2 ^ t) 0) = true ∧ r2 = subF (M.getD i 0) (M.getD (i + 2 ^ t) 0)) ∨ ((fin (M.getD i 0) = false ∨ fin (M.getD (i + 2 ^ t) 0) = false) ∧ fin r2 = false)) :
    Way L t (i + 1) ((M.set i r1).set (i + 2 ^ t) r2) := by
  have hp : 0 < 2 ^ t := Nat.pow_pos (by omega)
  obtain ⟨hl, hM⟩ := h
  refine ⟨by rw [List.length_set, List.length_set, hl], ?_⟩
  rcases hM with ⟨ho, hM⟩ | ⟨ho, hM⟩
  · left
    refine ⟨ho, ?_⟩
    have hih2 : i + 2 ^ t < (rnds L t).length := by rw [rnds_len]; exact hih
    obtain ⟨e1, e2⟩ := mix_old (rnds L t) (2 ^ t) i hp hi hih2
    have f1 := all_at (okRnd_last ho) i (by omega)
    have f2 := all_at (okRnd_last ho) (i + 2 ^ t) hih2
    rw [hM, e1, e2] at h1 h2
    rcases h1 with ⟨_, _, h1⟩ | ⟨h1 | h1, _⟩
    · rcases h2 with ⟨_, _, h2⟩ | ⟨h2 | h2, _⟩
      · rw [hM, h1, h2]
        exact mix_step (rnds L t) (2 ^ t) i hp hi hih2
      · rw [f1] at h2; cases h2
      · rw [f2] at h2; cases h2
    · rw [f1] at h1; cases h1
    · rw [f2] at h1; cases h1
  · right
    refine ⟨ho, bad_set (by omega) (by omega) (by omega) hM ?_⟩
    rcases h1 with ⟨g1, g2, _⟩ | ⟨_, g⟩
    · exact .inl ⟨g1, g2⟩
    · exact .inr g

set_option maxRecDepth 100000 in
set_option maxHeartbeats 1600000 in
theorem l10Sums_all (ad : Option Addr) (n cap : Nat) (L : List Nat) (w : World) (h : CameF ad n L w) (hn : lenI (n : Int) = true) :
    Calls Tryd.prog 48 #[.slice ad n cap] w fun e w' => ∃ v M, e = .returned v ∧ OwnF w.heap.size v M w' ∧ M.length = n ∧ ((okRnd L (lg n) = true ∧ M = rnds L (lg n)) ∨ (okRnd L (lg n) = false ∧ M.all fin = false)) ∧ Below w.heap.size w w' := by
  obtain ⟨i0, hi, hz0, hz1, hz2⟩ := info_parts infoF
  obtain ⟨hpow, hlg⟩ := lg_pow hn
  have hn64 : 1 ≤ n ∧ n ≤ 64 := by rcases lenI_yes hn with e | e | e | e | e | e | e <;> omega
  have hLn := h.1
  obtain ⟨b, off, rfl, hb, hc⟩ := h.2 (by omega)
  have HNEW : Hid (∀ j u, (L.map (Value.float .f32))[j]? = some u → (w.alloc (.cells #[] 38)).cell? ((⟨b, off, none⟩ : Addr).add j) = some u) := Lib.hid (fun j u hj => by
    have hjl : j < L.length := by have := (List.getElem?_eq_some_iff.1 hj).1; rwa [List.length_map] at this
    rw [Addr.add_mid, World.cell?_alloc_lt _ _ _ hb, hc j (by omega), ← hj, map_getDF L j hjl])
  have HONE : Hid (∀ u ∈ L.map (Value.float .f32), u.oneCell' = true) := Lib.hid (fun u hu => by obtain ⟨x, _, rfl⟩ := List.mem_map.1 hu; rfl)
  have HLN := Lib.hid hLn
  have HF : Hid ((okRnd L 0 = true ∧ L = rnds L 0) ∨ (okRnd L 0 = false ∧ L.all fin = false)) := Lib.hid (by
    rw [okRnd_zero]
    cases hf : L.all fin
    · exact .inr ⟨rfl, rfl⟩
    · exact .inl ⟨rfl, rfl⟩)
  obtain ⟨m, hm⟩ : ∃ m, m = lg n := ⟨_, rfl⟩
  rw [← hm] at hpow hlg ⊢
  have HPOW := Lib.hid hpow
  clear h hn hb hc hm hpow
  go_enter Tryd.func48, Tryd.ntmps48
  go_wp2_with (at_builtin; refine wpList_append_own _ rfl (.tmp 8) (.tmp 9) 26 rfl w.heap.size 38 i0 (.float .f32 0) 1 4 Tryd.underlying26 hi hz0 hz1 hz2 rfl (by decide) (.slice (some ⟨w.heap.size, 0, none⟩) 0 0) 0 [] rfl (OwnF.empty _ _ (Nat.le_refl _)) ⟨b, off, none⟩ n cap (L.map (Value.float .f32)) rfl ?a1 HNEW.out HONE.out ?a2 ?a3 ?a4 ?_)
  case a1 => rw [List.length_map, HLN.out, Nat.mul_one]
  case a2 => unfold maxLen; omega
  case a3 => omega
  case a4 => rw [World.size_alloc]; omega
  intro v0 w1 hown hgrow _
  have hO : OwnF w.heap.size v0 L w1 := by
    unfold OwnF
    rw [HLN.out]
    exact hown
  have B1 : Hid (Below w.heap.size w w1) := Lib.hid (((Below.refl w.heap.size w).alloc (Nat.le_refl _) _).grown hgrow (by rw [World.size_alloc]; omega) (fun k hk => by injection hk with hk; have : w.heap.size = k := hk; omega))
  obtain ⟨g, cp, rfl, hg, _⟩ := hO.form (by rw [HLN.out]; omega)
  have O1 : Hid (OwnF w.heap.size (.slice (some ⟨g, 0, none⟩) n cp) L w1) := Lib.hid (by rw [HLN.out] at hO; exact hO)
  rw [HLN.out]
  have HGE := Lib.hid hg
  clear hown hgrow hO hi hz0 hz1 hz2 HNEW HONE hg
  go_wp2_with fail
  go_loopw [4] (fun i wr => ∃ t : Nat, ∃ M : List Nat, t ≤ m ∧ i = .int .i64 (pw2 t) ∧ Hid (OwnF w.heap.size (.slice (some ⟨g, 0, none⟩) n cp) M wr) ∧ Hid (M.length = L.length ∧ ((okRnd L t = true ∧ M = rnds L t) ∨ (okRnd L t = false ∧ M.all fin = false))) ∧ Hid (Below w.heap.size w wr)) (fun i _ => (1000 - (intOf i)).toNat)
  case atStart => exact ⟨0, L, by omega, rfl, O1, Lib.hid ⟨rfl, HF.out⟩, B1⟩
  case round =>
    obtain ⟨t, M, ht, rfl, O2, HM, B2⟩ := hrel
    clear O1 B1
    by_cases hlt : t < m
    · have hp1 : 2 ^ (t + 1) ≤ 2 ^ m := Nat.pow_le_pow_right (by omega) (by omega)
      have hp2 : 0 < 2 ^ t := Nat.pow_pos (by omega)
      have hp3 : 2 ^ (t + 1) = 2 * 2 ^ t := by rw [Nat.pow_succ]; omega
      have hpw : pw2 t = ((2 ^ t : Nat) : Int) := rfl
      have hpw2 : pw2 (t + 1) = ((2 ^ (t + 1) : Nat) : Int) := rfl
      have hdk : decide (pw2 t < (n : Int)) = true := by simp; have := HPOW.out; omega
      have hw2 : IntKind.i64.wrap (2 * pw2 t) = pw2 (t + 1) := by rw [show 2 * pw2 t = pw2 (t + 1) by omega]; exact IntWalk.i64_in _ (by have := HPOW.out; omega)
      have HP : Hid (0 < 2 ^ t ∧ 2 ^ t ≤ 64 ∧ pw2 t = ((2 ^ t : Nat) : Int) ∧ pw2 (t + 1) = 2 * pw2 t) := Lib.hid ⟨hp2, by have := HPOW.out; omega, rfl, by omega⟩
      have HW0 := Lib.hid (way_start L M t HM.out)
      obtain ⟨P, hP⟩ : ∃ P, P = pw2 t := ⟨_, rfl⟩
      obtain ⟨P2, hP2⟩ : ∃ P, P = pw2 (t + 1) := ⟨_, rfl⟩
      rw [← hP] at hdk hw2 HP ⊢
      rw [← hP2] at hw2 HP
      have HPE := Lib.hid hP
      have HPE2 := Lib.hid hP2
      clear hp1 hp2 hp3 hpw hpw2 HM hP hP2
      go_wp2_with fail
      go_loopw [5] (fun i wv => ∃ q : Nat, ∃ M : List Nat, q ≤ n ∧ i = .int .i64 q ∧ Hid (OwnF w.heap.size (.slice (some ⟨g, 0, none⟩) n cp) M wv) ∧ Hid (Way L t q M) ∧ Hid (Below w.heap.size w wv)) (fun i _ => n - (intOf i).toNat)
      case atStart => exact ⟨0, M, by omega, rfl, O2, HW0, B2⟩
      case round =>
        clear O2 HW0 B2
        obtain ⟨q, M, hq, rfl, O3, HW, B3⟩ := hrel
        by_cases hlq : q < n
        · have hd3 : decide ((q : Int) < (n : Int)) = true := by simp; omega
          have hP0 : P ≠ 0 := by have := HP.out; omega
          obtain ⟨D, hD⟩ : ∃ D, D = q / 2 ^ t := ⟨_, rfl⟩
          have hq1 : (q : Int).tdiv P = (D : Int) := by rw [HP.out.2.2.1, Int.tdiv_eq_ediv_of_nonneg (by omega), hD]; rfl
          have hq2 : (q : Int) / P = (D : Int) := by rw [HP.out.2.2.1, hD]; rfl
          have hq3 : D ≤ q := by rw [hD]; exact Nat.div_le_self _ _
          have hq4 : IntKind.i64.wrap (D : Int) = (D : Int) := IntWalk.i64_in _ (by omega)
          by_cases he : D % 2 = 0
          · have r1 : (((D : Int).tmod 2) == 0) = true := by rw [Int.tmod_eq_emod_of_nonneg (by omega)]; simp; omega
            have r2 : (((D : Int) % 2) == 0) = true := by simp; omega
            have hin := pair_in m t q hlt (by rw [← HPOW.out]; exact hlq) (by rw [← hD]; exact he)
            have hMn : M.length = n := HW.out.1.trans HLN.out
            have hsum : (q : Int) + P = ((q + 2 ^ t : Nat) : Int) := by rw [HP.out.2.2.1, Int.natCast_add]
            have hPb : 0 < P ∧ P ≤ 64 := by have := HP.out; omega
            have hsw : IntKind.i64.wrap ((q : Int) + P) = ((q + 2 ^ t : Nat) : Int) := (IntWalk.i64_in _ (by omega)).trans hsum
            have o3 : OwnF w.heap.size (.slice (some ⟨g, 0, none⟩) M.length cp) M wr := by rw [hMn]; exact O3.out
            have hj : q + 2 ^ t < M.length := by rw [hMn, HPOW.out]; exact hin
            have hjn : q + 2 ^ t < n := by rw [← hMn]; exact hj
            have c1 := o3.cell q (by omega)
            have c2 := o3.cell (q + 2 ^ t) hj
            have HWS := Lib.hid (fun r1 r2 => way_step L M t q r1 r2 HW.out (by rw [← hD]; exact he) (by rw [← HW.out.1]; exact hj))
            obtain ⟨x, hx⟩ : ∃ x, x = M.getD q 0 := ⟨_, rfl⟩
            obtain ⟨y, hy⟩ : ∃ x, x = M.getD (q + 2 ^ t) 0 := ⟨_, rfl⟩
            rw [← hx] at c1 HWS
            rw [← hy] at c2 HWS
            have HO := Lib.hid o3
            have HXE := Lib.hid hx.symm
            have HMN := Lib.hid hMn
            have HDJ : Hid (q ≠ q + 2 ^ t) := Lib.hid (by have := HP.out; omega)
            generalize q + 2 ^ t = j at *
            clear hq3 hin hsum o3 hx hy he hMn hj hD
            go_wp2_with fail
            go_quiet (fail)
            have HU : Hid (OwnF w.heap.size (.slice (some ⟨g, 0, none⟩) M.length cp) M (wr.drewN nq)) := Lib.hid HO.out
            have BU : Hid (Below w.heap.size w (wr.drewN nq)) := Lib.hid (below_drewN B3.out nq)
            clear O3 HO B3
            generalize wr.drewN nq = u at *
            obtain ⟨z1, e1, a1, a2⟩ := add_at x y u
            obtain ⟨z2, e2, s1, s2⟩ := sub_at x y ((u.drewN e1).setCell ⟨g, q, none⟩ (.float .f32 z1))
            have hqM : q < M.length := by rw [HMN.out]; exact hlq
            have hjM : j < M.length := by rw [HMN.out]; exact hjn
            have k1 : (u.drewN e1).cell? ⟨g, q, none⟩ = some (.float .f32 x) := by rw [World.cell?_drewN, HU.out.cell q hqM, HXE.out]
            have f1 : (u.drewN e1).frozen? ⟨g, q, none⟩ = false := HU.out.free q
            have OA : OwnF w.heap.size (.slice (some ⟨g, 0, none⟩) M.length cp) M (u.drewN e1) := HU.out
            have OB := OA.stored q z1
            have OC : OwnF w.heap.size (.slice (some ⟨g, 0, none⟩) (M.set q z1).length cp) (M.set q z1) (((u.drewN e1).setCell ⟨g, q, none⟩ (.float .f32 z1)).drewN e2) := by rw [List.length_set]; exact OB
            have f2 := OC.free j
            have k2 := OC.cell j (by rw [List.length_set]; exact hjM)
            have OD := OC.stored j z2
            rw [List.length_set, HMN.out] at OD
            have O5 := Lib.hid OD
            have B5 : Hid (Below w.heap.size w ((((u.drewN e1).setCell ⟨g, q, none⟩ (.float .f32 z1)).drewN e2).setCell ⟨g, j, none⟩ (.float .f32 z2))) := Lib.hid ((below_drewN ((below_drewN BU.out e1).setCell (p := ⟨g, q, none⟩) HGE.out _) e2).setCell (p := ⟨g, j, none⟩) HGE.out _)
            have HW5 := Lib.hid (HWS.out z1 z2 a2 s2)
            generalize (M.set q z1).getD j 0 = y2 at *
            clear OA OB OC OD a2 s2 hqM hjM
            go_wp2_with fail
            exact ⟨⟨q + 1, (M.set q z1).set j z2, by omega, by go_num, O5, HW5, B5⟩, by simp [intOf]; omega⟩
          · have r1 : (((D : Int).tmod 2) == 0) = false := by rw [Int.tmod_eq_emod_of_nonneg (by omega)]; simp; omega
            have r2 : (((D : Int) % 2) == 0) = false := by simp; omega
            have HW2 := Lib.hid (way_skip L M t q HW.out (by rw [← hD]; exact he))
            clear hq3 he hD
            go_wp2_with fail
            exact ⟨⟨q + 1, M, by omega, by go_num, O3, HW2, B3⟩, by simp [intOf]; omega⟩
        · obtain rfl : q = n := by omega
          have HME := Lib.hid (way_end L M t (by rw [HLN.out]; exact HW.out))
          go_wp2_with fail
          exact ⟨⟨t + 1, M, by omega, by rw [HPE2.out], O3, HME, B3⟩, by have := HP.out; simp [intOf]; omega⟩
    · obtain rfl : t = m := by omega
      have hdk : decide (pw2 t < (n : Int)) = false := by
        have : pw2 t = ((2 ^ t : Nat) : Int) := rfl
        have := HPOW.out
        simp; omega
      have HML : Hid (M.length = n) := Lib.hid (HM.out.1.trans HLN.out)
      generalize pw2 t = P at *
      go_wp2_with fail
      go_ret
      exact ⟨_, M, rfl, O2.out, HML.out, HM.out.2, B2.out⟩

theorem l10Sums_any (ad : Option Addr) (n cap : Nat) (L : List Nat) (w : World) (h : CameF ad n L w) (hn : lenI (n : Int) = true) (_hf : L.all fin = true) :
    Calls Tryd.prog 48 #[.slice ad n cap] w fun e w' => ∃ v M, e = .returned v ∧ OwnF w.heap.size v M w' ∧ M.length = n ∧ ((okRnd L (lg n) = true ∧ M = rnds L (lg n)) ∨ (okRnd L (lg n) = false ∧ M.all fin = false)) ∧ Below w.heap.size w w' :=
  l10Sums_all ad n cap L w h hn

end Go.Proofs.YtclflnpbiiimiaaDoor
