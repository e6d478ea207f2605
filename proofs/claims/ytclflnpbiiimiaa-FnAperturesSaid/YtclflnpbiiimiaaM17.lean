/- The model's correlations of lists. Condition: as many numbers as a law lets in. The model's sums by codes and back, whole: lists and codes. Condition: as many numbers as a law lets in. -/
import Derived.Test.YtclflnpbiiimiaaM16
namespace Go.Proofs.Ytclflnpbiiimiaa
open Go Go.RowKit Ieee

set_option maxRecDepth 100000 in
set_option maxHeartbeats 1600000 in
theorem l10Cor_any (a1 a2 : Option Addr) (n c1 c2 : Nat) (A B : List Nat) (w : World) (h1 : CameF a1 n A w) (h2 : CameF a2 n B w) (hn1 : 1 ≤ n) (hn2 : n ≤ 64) (fA : A.all fin = true) (fB : B.all fin = true) :
    Calls Try.prog 47 #[.slice a1 n c1, .slice a2 n c2] w fun e w' => ∃ r, e = .returned (.tuple #[r, .int .i64 (ansC (cor A B))]) ∧ OwnF w.heap.size r (ansL (cor A B)) w' ∧ Below w.heap.size w w' := by
  have hA := h1.1
  have hB := h2.1
  obtain ⟨b1, o1, rfl, hb1, hc1⟩ := h1.2 (by omega)
  obtain ⟨b2, o2, rfl, hb2, hc2⟩ := h2.2 (by omega)
  have CC : Hid (∀ u, Below w.heap.size w u → ∀ i j, i < n → j < n → u.cell? ⟨b1, o1 + i, none⟩ = some (.float .f32 (A.getD i 0)) ∧ u.cell? ⟨b2, o2 + j, none⟩ = some (.float .f32 (B.getD j 0))) :=
    Lib.hid (fun u hu i j hi hj => ⟨(hu.cell (p := ⟨b1, o1 + i, none⟩) hb1).trans (hc1 i hi), (hu.cell (p := ⟨b2, o2 + j, none⟩) hb2).trans (hc2 j hj)⟩)
  have FA := Lib.hid (fun i hi => all_at fA i hi)
  have FB := Lib.hid (fun i hi => all_at fB i hi)
  rw [hA] at FA
  rw [hB] at FB
  have HF : Hid (∀ k j, corF A B k j = mulF (A.getD j 0) (B.getD ((j + k) % n) 0)) := Lib.hid (fun k j => by unfold corF; rw [hB])
  have HCOR : Hid (cor A B = rowsTo (fun k => accTo (corF A B k) n) n) := Lib.hid (by unfold cor; rw [hA])
  have HN0 := Lib.hid hn1
  clear h1 h2 hA hB hb1 hb2 hc1 hc2 fA fB hn1
  go_enter Try.func47, Try.ntmps47
  go_wp2
  go_loopw [7, 6] (fun i v wr => ∃ k : Nat, ∃ R : List Nat, k ≤ n ∧ i = .int .i64 k ∧ Hid (rowsTo (fun k => accTo (corF A B k) n) k = some R) ∧ Hid (OwnF w.heap.size v R wr) ∧ Hid (Below w.heap.size w wr)) (fun i _ _ => n - (intOf i).toNat)
  case atStart => exact ⟨0, [], by omega, rfl, Lib.hid rfl, Lib.hid (OwnF.empty _ _ (Nat.le_refl _)), Lib.hid ((Below.refl _ _).alloc (Nat.le_refl _) _)⟩
  case round =>
    obtain ⟨k, R, hk, rfl, HR, O, BB⟩ := hrel
    obtain ⟨ad, cp, e0, _⟩ := O.out.came
    subst e0
    have hRl := rows_len HR.out
    have HRL : Hid (R.length = k) := Lib.hid hRl
    rw [hRl] at O ⊢
    clear hRl
    by_cases hlt : k < n
    · have hdk : decide ((k : Int) < (n : Int)) = true := by simp; omega
      go_wp2_with fail
      go_loopw [9, 8] (fun i v wv => ∃ j s : Nat, j ≤ n ∧ i = .int .i64 j ∧ v = .float .f32 s ∧ Hid (accTo (corF A B k) j = some s) ∧ Hid (OwnF w.heap.size (.slice ad k cp) R wv) ∧ Hid (Below w.heap.size w wv)) (fun i _ _ => n - (intOf i).toNat)
      case atStart => exact ⟨0, 0, by omega, rfl, rfl, Lib.hid rfl, O, BB⟩
      case round =>
        clear O BB
        obtain ⟨j, s, hj, rfl, rfl, HS, O, BB⟩ := hrel
        by_cases hlj : j < n
        · have hdj : decide ((j : Int) < (n : Int)) = true := by simp; omega
          have hn0 : (n : Int) ≠ 0 := by omega
          have hsum : (j : Int) + (k : Int) = ((j + k : Nat) : Int) := by rw [Int.natCast_add]
          have hsw : IntKind.i64.wrap ((j : Int) + (k : Int)) = ((j + k : Nat) : Int) := (IntWalk.i64_in _ (by omega)).trans hsum
          have hm1 : (((j + k : Nat) : Int)).tmod (n : Int) = (((j + k) % n : Nat) : Int) := by rw [Int.tmod_eq_emod_of_nonneg (by omega)]; rfl
          have hm2 : (((j + k : Nat) : Int)) % (n : Int) = (((j + k) % n : Nat) : Int) := rfl
          have hml : (j + k) % n < n := Nat.mod_lt _ (by omega)
          obtain ⟨p1, p2⟩ := CC.out wr BB.out j ((j + k) % n) hlj hml
          obtain ⟨m1, m2⟩ := mulF_fin (A.getD j 0) (B.getD ((j + k) % n) 0) (FA.out j hlj) (FB.out _ hml)
          have HM : Hid (corF A B k j = mulF (A.getD j 0) (B.getD ((j + k) % n) 0)) := Lib.hid (HF.out k j)
          generalize (j + k) % n = q at *
          generalize ((j + k : Nat) : Int) = jk at *
          generalize A.getD j 0 = x at *
          generalize B.getD q 0 = y at *
          have ad1 := addF_num s (mulF x y) (acc_fin HS.out) m2
          have h1 := fun w => run_float_arith (P := Try.prog) w .mul 40 .f32 x y (mulF x y) m1
          have h2 := fun w => run_float_arith (P := Try.prog) w .add 40 .f32 s (mulF x y) (addF s (mulF x y)) ad1
          have HYES : Hid (fin (addF s (mulF x y)) = true → accTo (corF A B k) (j + 1) = some (addF s (mulF x y))) := Lib.hid (fun hf => by
            have := acc_step HS.out (by rw [HM.out]; exact hf)
            rwa [HM.out] at this)
          have HNO : Hid (fin (addF s (mulF x y)) = false → cor A B = none) := Lib.hid (fun hf => by
            have h3 := acc_stop HS.out (by rw [HM.out]; exact hf)
            rw [HCOR.out]
            exact rows_end (F := fun k => accTo (corF A B k) n) (acc_end h3 (by omega)) hlt)
          generalize mulF x y = p at *
          generalize addF s p = r at *
          clear m1 m2 ad1 HM hsum
          go_wp2_with fail
          go_quiet (fail)
          have OU : Hid (OwnF w.heap.size (.slice ad k cp) R (wr.drewN nq)) := Lib.hid O.out
          have BU : Hid (Below w.heap.size w (wr.drewN nq)) := Lib.hid (below_drewN BB.out nq)
          clear O BB p1 p2
          generalize wr.drewN nq = u at *
          go_wp2_with fail
          refine (fine_any r _).mono ?_
          rintro e w1 ⟨rfl, d, rfl⟩
          have O2 : Hid (OwnF w.heap.size (.slice ad k cp) R (u.drewN d)) := Lib.hid OU.out
          have B2 : Hid (Below w.heap.size w (u.drewN d)) := Lib.hid (below_drewN BU.out d)
          clear OU BU
          generalize u.drewN d = u2 at *
          cases hf : fin r
          · have HN := Lib.hid (HNO.out hf)
            go_wp2_with fail
            go_ret2
            rw [HN.out]
            exact ⟨_, rfl, OwnF.zero _ _, B2.out⟩
          · have HY := Lib.hid (HYES.out hf)
            go_wp2_with fail
            exact ⟨⟨j + 1, r, by omega, by go_num, rfl, HY, O2, B2⟩, by simp [intOf]; omega⟩
        · obtain rfl : j = n := by omega
          have HR2 := Lib.hid (rows_step HR.out HS.out)
          have HLN : Hid (R.length ≤ 1048576) := Lib.hid (by rw [HRL.out]; omega)
          go_wp2_with (at_builtin; refine wpList_pushF rfl (.tmp 42) (.tmp 44) rfl w.heap.size _ _ s rfl rfl O.out HLN.out BB.out.size ?_)
          intro v' w2 o2 k2
          have O3 := Lib.hid o2
          have B3 := Lib.hid (BB.out.trans k2)
          clear o2 k2
          go_wp2_with fail
          exact ⟨⟨k + 1, R ++ [s], by omega, by go_num, HR2, O3, B3⟩, by simp [intOf]; omega⟩
    · obtain rfl : k = n := by omega
      have HE : Hid (cor A B = some R) := Lib.hid (by rw [HCOR.out]; exact HR.out)
      go_wp2_with fail
      go_ret2
      rw [HE.out]
      exact ⟨_, rfl, O.out, BB.out⟩

end Go.Proofs.Ytclflnpbiiimiaa

namespace Go.Proofs.Ytclflnpbiiimiaa
open Go Go.RowKit Ieee

/-- the code of the sums by codes -/
def sbCode (L : List Nat) : Int := if L.all fin = false then 1 else if lenI (L.length : Int) = false then 2 else if okRnd L (lg L.length) = true then 0 else 3
def sbList (L : List Nat) : List Nat := if sbCode L = 0 then rnds L (lg L.length) else []
/-- a whole number as a float32 -/
def fl32 (n : Nat) : Nat := floatOfInt .f32 (n : Int)
def bkList (L : List Nat) : List Nat := if sbCode L = 0 then (rnds L (lg L.length)).map (fun x => divS x (fl32 L.length)) else []
theorem sb_nan {L : List Nat} (h : L.all fin = false) : sbCode L = 1 ∧ sbList L = [] ∧ bkList L = [] := by
  have e : sbCode L = 1 := by unfold sbCode; rw [if_pos h]
  exact ⟨e, by unfold sbList; rw [if_neg (by omega)], by unfold bkList; rw [if_neg (by omega)]⟩
theorem sb_len {L : List Nat} (h : L.all fin = true) (h2 : lenI (L.length : Int) = false) : sbCode L = 2 ∧ sbList L = [] ∧ bkList L = [] := by
  have e : sbCode L = 2 := by unfold sbCode; rw [if_neg (by rw [h]; decide), if_pos h2]
  exact ⟨e, by unfold sbList; rw [if_neg (by omega)], by unfold bkList; rw [if_neg (by omega)]⟩
theorem sb_lim {L : List Nat} (h : L.all fin = true) (h2 : lenI (L.length : Int) = true) (h3 : okRnd L (lg L.length) = false) : sbCode L = 3 ∧ sbList L = [] ∧ bkList L = [] := by
  have e : sbCode L = 3 := by unfold sbCode; rw [if_neg (by rw [h]; decide), if_neg (by rw [h2]; decide), if_neg (by rw [h3]; decide)]
  exact ⟨e, by unfold sbList; rw [if_neg (by omega)], by unfold bkList; rw [if_neg (by omega)]⟩
theorem sb_yes {L : List Nat} (h : L.all fin = true) (h2 : lenI (L.length : Int) = true) (h3 : okRnd L (lg L.length) = true) : sbCode L = 0 ∧ sbList L = rnds L (lg L.length) ∧ bkList L = (rnds L (lg L.length)).map (fun x => divS x (fl32 L.length)) := by
  have e : sbCode L = 0 := by unfold sbCode; rw [if_neg (by rw [h]; decide), if_neg (by rw [h2]; decide), if_pos h3]
  exact ⟨e, by unfold sbList; rw [if_pos e], by unfold bkList; rw [if_pos e]⟩
theorem sb_small (L : List Nat) : (sbList L).length ≤ L.length ∧ (bkList L).length ≤ L.length := by
  constructor
  · unfold sbList
    split
    · rw [rnds_len]; exact Nat.le_refl _
    · simp
  · unfold bkList
    split
    · rw [List.length_map, rnds_len]; exact Nat.le_refl _
    · simp
theorem sb_64 (L : List Nat) (h : sbCode L = 0) : L.length ≤ 64 := by
  unfold sbCode at h
  split at h
  · cases h
  · split at h
    · cases h
    · rename_i h2
      have h3 : lenI (L.length : Int) = true := by
        cases hl : lenI (L.length : Int)
        · exact absurd hl h2
        · rfl
      rcases lenI_yes h3 with e | e | e | e | e | e | e <;> omega
theorem sbList_len (L : List Nat) : (sbList L).length ≤ 1048576 := by
  unfold sbList
  split
  · rw [rnds_len]
    have := sb_64 L (by assumption)
    omega
  · simp
theorem bkList_len (L : List Nat) : (bkList L).length ≤ 1048576 := by
  unfold bkList
  split
  · rw [List.length_map, rnds_len]
    have := sb_64 L (by assumption)
    omega
  · simp
theorem fl32_any {n : Nat} (h : lenI (n : Int) = true) : fin (fl32 n) = true ∧ gtz (fl32 n) = true := by
  rcases lenI_yes h with e | e | e | e | e | e | e
  · obtain rfl : n = 1 := by omega
    decide +kernel
  · obtain rfl : n = 2 := by omega
    decide +kernel
  · obtain rfl : n = 4 := by omega
    decide +kernel
  · obtain rfl : n = 8 := by omega
    decide +kernel
  · obtain rfl : n = 16 := by omega
    decide +kernel
  · obtain rfl : n = 32 := by omega
    decide +kernel
  · obtain rfl : n = 64 := by omega
    decide +kernel
theorem divS_some (x n : Nat) (hx : fin x = true) (h : lenI (n : Int) = true) : single.div x (fl32 n) = some (divS x (fl32 n)) := by
  obtain ⟨r, hr, _⟩ := div_num x (fl32 n) (notnan_fin x hx) (fl32_any h).1 (fl32_any h).2
  unfold divS
  rw [hr]
  rfl

end Go.Proofs.Ytclflnpbiiimiaa
