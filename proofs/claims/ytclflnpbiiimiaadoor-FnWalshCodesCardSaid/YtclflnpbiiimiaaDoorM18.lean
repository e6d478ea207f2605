/- The model's correlations of lists. Condition: as many numbers as a law lets in. The model's sums by codes and back, whole: lists and codes. Condition: as many numbers as a law lets in. -/
import Derived.Test.YtclflnpbiiimiaaDoorM17
namespace Go.Proofs.YtclflnpbiiimiaaDoor
open Go Go.RowKit Ieee

end Go.Proofs.YtclflnpbiiimiaaDoor

namespace Go.Proofs.YtclflnpbiiimiaaDoor
open Go Go.RowKit Ieee

/-- the code of the sums by codes -/
def sbCode (L : List Nat) : Int := if L.all fin = false then 1 else if lenI (L.length : Int) = false then 2 else if okRnd L (lg L.length) = true then 0 else 3
def sbList (L : List Nat) : List Nat := if sbCode L = 0 then rnds L (lg L.length) else []
/-- a whole number as a float32 -/
def fl32 (n : Nat) : Nat := floatOfInt .f32 (n : Int)
def bkList (L : List Nat) : List Nat := if sbCode L = 0 then (rnds L (lg L.length)).map (fun x => divS x (fl32 L.length)) else []
theorem sb_nan {L : List Nat} (h : L.all fin = false) : sbCode L = 1 ∧ sbList L = [] ∧ bkList L = [] := by
  have e : sbCode L = 1 := by unfold sbCode; rw [if_pos h]
  exact ⟨e, by unfold sbList; rw [if_neg (by omega)], by unfold bkList; rw [if_neg (by omega)]⟩
theorem sb_len {L : List Nat} (h : L.all fin = true) (h2 : lenI (L.length : Int) = false) : sbCode L = 2 ∧ sbList L = [] ∧ bkList L = [] := by
  have e : sbCode L = 2 := by unfold sbCode; rw [if_neg (by rw [h]; decide), if_pos h2]
  exact ⟨e, by unfold sbList; rw [if_neg (by omega)], by unfold bkList; rw [if_neg (by omega)]⟩
theorem sb_lim {L : List Nat} (h : L.all fin = true) (h2 : lenI (L.length : Int) = true) (h3 : okRnd L (lg L.length) = false) : sbCode L = 3 ∧ sbList L = [] ∧ bkList L = [] := by
  have e : sbCode L = 3 := by unfold sbCode; rw [if_neg (by rw [h]; decide), if_neg (by rw [h2]; decide), if_neg (by rw [h3]; decide)]
  exact ⟨e, by unfold sbList; rw [if_neg (by omega)], by unfold bkList; rw [if_neg (by omega)]⟩
theorem sb_yes {L : List Nat} (h : L.all fin = true) (h2 : lenI (L.length : Int) = true) (h3 : okRnd L (lg L.length) = true) : sbCode L = 0 ∧ sbList L = rnds L (lg L.length) ∧ bkList L = (rnds L (lg L.length)).map (fun x => divS x (fl32 L.length)) := by
  have e : sbCode L = 0 := by unfold sbCode; rw [if_neg (by rw [h]; decide), if_neg (by rw [h2]; decide), if_pos h3]
  exact ⟨e, by unfold sbList; rw [if_pos e], by unfold bkList; rw [if_pos e]⟩
theorem sb_small (L : List Nat) : (sbList L).length ≤ L.length ∧ (bkList L).length ≤ L.length := by
  constructor
  · unfold sbList
    split
    · rw [rnds_len]; exact Nat.le_refl _
    · simp
  · unfold bkList
    split
    · rw [List.length_map, rnds_len]; exact Nat.le_refl _
    · simp
theorem sb_64 (L : List Nat) (h : sbCode L = 0) : L.length ≤ 64 := by
  unfold sbCode at h
  split at h
  · cases h
  · split at h
    · cases h
    · rename_i h2
      have h3 : lenI (L.length : Int) = true := by
        cases hl : lenI (L.length : Int)
        · exact absurd hl h2
        · rfl
      rcases lenI_yes h3 with e | e | e | e | e | e | e <;> omega
theorem sbList_len (L : List Nat) : (sbList L).length ≤ 1048576 := by
  unfold sbList
  split
  · rw [rnds_len]
    have := sb_64 L (by assumption)
    omega
  · simp
theorem bkList_len (L : List Nat) : (bkList L).length ≤ 1048576 := by
  unfold bkList
  split
  · rw [List.length_map, rnds_len]
    have := sb_64 L (by assumption)
    omega
  · simp
theorem fl32_any {n : Nat} (h : lenI (n : Int) = true) : fin (fl32 n) = true ∧ gtz (fl32 n) = true := by
  rcases lenI_yes h with e | e | e | e | e | e | e
  · obtain rfl : n = 1 := by omega
    decide +kernel
  · obtain rfl : n = 2 := by omega
    decide +kernel
  · obtain rfl : n = 4 := by omega
    decide +kernel
  · obtain rfl : n = 8 := by omega
    decide +kernel
  · obtain rfl : n = 16 := by omega
    decide +kernel
  · obtain rfl : n = 32 := by omega
    decide +kernel
  · obtain rfl : n = 64 := by omega
    decide +kernel
theorem divS_some (x n : Nat) (hx : fin x = true) (h : lenI (n : Int) = true) : single.div x (fl32 n) = some (divS x (fl32 n)) := by
  obtain ⟨r, hr, _⟩ := div_num x (fl32 n) (notnan_fin x hx) (fl32_any h).1 (fl32_any h).2
  unfold divS
  rw [hr]
  rfl

set_option maxRecDepth 100000 in
theorem l10Told_yes (B : Nat) (v : Value) (M : List Nat) (w : World) (h : OwnF B v M w) (hn : M.length ≤ 1048576) (hf : M.all fin = true) :
    Calls Tryd.prog 47 #[v] w fun e w' => e = .returned (.tuple #[v, .int .i64 0]) ∧ ∃ d, w' = w.drewN d := by
  obtain ⟨a, c, rfl, k⟩ := h.came
  have HF : Hid (∀ u, CameF a M.length M u → Calls Tryd.prog 46 #[.slice a M.length c] u fun e w' => e = .returned (.bool true) ∧ ∃ d, w' = u.drewN d) := Lib.hid (fun u hu => by rw [← hf]; exact l10Fine_any a M.length c M u hu hn)
  have HK := Lib.hid k
  clear h k hf
  generalize M.length = n at *
  go_enter Tryd.func47, Tryd.ntmps47
  go_wp2_with fail
  refine (HF.out _ HK.out).mono ?_
  rintro e w1 ⟨rfl, d, rfl⟩
  go_wp2_with fail
  go_ret2
  exact ⟨rfl, d, rfl⟩
set_option maxRecDepth 100000 in
theorem l10Told_no (B : Nat) (v : Value) (M : List Nat) (w : World) (h : OwnF B v M w) (hn : M.length ≤ 1048576) (hf : M.all fin = false) :
    Calls Tryd.prog 47 #[v] w fun e w' => e = .returned (.tuple #[.slice none 0 0, .int .i64 3]) ∧ ∃ d, w' = w.drewN d := by
  obtain ⟨a, c, rfl, k⟩ := h.came
  have HF : Hid (∀ u, CameF a M.length M u → Calls Tryd.prog 46 #[.slice a M.length c] u fun e w' => e = .returned (.bool false) ∧ ∃ d, w' = u.drewN d) := Lib.hid (fun u hu => by rw [← hf]; exact l10Fine_any a M.length c M u hu hn)
  have HK := Lib.hid k
  clear h k hf
  generalize M.length = n at *
  go_enter Tryd.func47, Tryd.ntmps47
  go_wp2_with fail
  refine (HF.out _ HK.out).mono ?_
  rintro e w1 ⟨rfl, d, rfl⟩
  go_wp2_with fail
  go_ret2
  exact ⟨rfl, d, rfl⟩

/-- the model's sums by codes, told -/
theorem told_any (ad : Option Addr) (n cap : Nat) (L : List Nat) (w : World) (h : CameF ad n L w) (hn : lenI (n : Int) = true) (hf : L.all fin = true) :
    Calls Tryd.prog 48 #[.slice ad n cap] w fun e w' => ∃ v r c, e = .returned v ∧ c = sbCode L ∧ Below w.heap.size w w' ∧
      Calls Tryd.prog 47 #[v] w' fun e w2 => e = .returned (.tuple #[r, .int .i64 c]) ∧ OwnF w.heap.size r (sbList L) w2 ∧ Below w.heap.size w w2 := by
  have hl := h.1
  refine (l10Sums_any ad n cap L w h hn hf).mono ?_
  rintro e w1 ⟨v, M, rfl, O, hM, hc, B⟩
  have hn64 : n ≤ 64 := by rcases lenI_yes hn with e | e | e | e | e | e | e <;> omega
  rcases hc with ⟨ho, rfl⟩ | ⟨ho, hb⟩
  · obtain ⟨e1, e2, _⟩ := sb_yes hf (by rw [hl]; exact hn) (by rw [hl]; exact ho)
    refine ⟨v, v, 0, rfl, e1.symm, B, ?_⟩
    refine (l10Told_yes _ v _ w1 O (by omega) (okRnd_last ho)).mono ?_
    rintro e w2 ⟨rfl, d, rfl⟩
    rw [e2, hl]
    exact ⟨rfl, O, below_drewN B d⟩
  · obtain ⟨e1, e2, _⟩ := sb_lim hf (by rw [hl]; exact hn) (by rw [hl]; exact ho)
    refine ⟨v, .slice none 0 0, 3, rfl, e1.symm, B, ?_⟩
    refine (l10Told_no _ v M w1 O (by omega) hb).mono ?_
    rintro e w2 ⟨rfl, d, rfl⟩
    rw [e2]
    exact ⟨rfl, OwnF.zero _ _, below_drewN B d⟩

set_option maxRecDepth 100000 in
set_option maxHeartbeats 800000 in
theorem specSb (L : List Nat) : ListsF 12 L (sbList L) (sbCode L) := by
  intro hn v w hO
  obtain ⟨a, cap, rfl, hC⟩ := hO.came
  have HC := Lib.hid hC
  have HN := Lib.hid hn
  clear hO hC
  cases hf : L.all fin
  · have HF : Hid (Calls Tryd.prog 46 #[.slice a L.length cap] w fun e w' => e = .returned (.bool false) ∧ ∃ d, w' = w.drewN d) := Lib.hid (by rw [← hf]; exact l10Fine_any a L.length cap L w HC.out HN.out)
    rw [(sb_nan hf).1, (sb_nan hf).2.1]
    clear hf HC HN hn
    generalize L.length = n at *
    go_enter Tryd.func12, Tryd.ntmps12
    go_wp2_with fail
    refine HF.out.mono ?_
    rintro e w1 ⟨rfl, d, rfl⟩
    go_wp2_with fail
    go_ret2
    exact ⟨_, rfl, OwnF.zero _ _, below_drewN (Below.refl _ _) d⟩
  · have HF : Hid (Calls Tryd.prog 46 #[.slice a L.length cap] w fun e w' => e = .returned (.bool true) ∧ ∃ d, w' = w.drewN d) := Lib.hid (by rw [← hf]; exact l10Fine_any a L.length cap L w HC.out HN.out)
    cases hl : lenI (L.length : Int)
    · have HL : Hid (∀ u, Calls Tryd.prog 39 #[.int .i64 (L.length : Int)] u fun e w' => e = .returned (.bool false) ∧ u = w') := Lib.hid (fun u => by rw [← hl]; exact l10Length_any _ u)
      rw [(sb_len hf hl).1, (sb_len hf hl).2.1]
      clear hf hl HC HN hn
      generalize L.length = n at *
      go_enter Tryd.func12, Tryd.ntmps12
      go_wp2_with fail
      refine HF.out.mono ?_
      rintro e w1 ⟨rfl, d, rfl⟩
      go_wp2_with fail
      refine (HL.out _).mono ?_
      rintro e w1 ⟨rfl, rfl⟩
      go_wp2_with fail
      go_ret2
      exact ⟨_, rfl, OwnF.zero _ _, below_drewN (Below.refl _ _) d⟩
    · have HL : Hid (∀ u, Calls Tryd.prog 39 #[.int .i64 (L.length : Int)] u fun e w' => e = .returned (.bool true) ∧ u = w') := Lib.hid (fun u => by rw [← hl]; exact l10Length_any _ u)
      have HT := Lib.hid (fun u hu => told_any a L.length cap L u hu hl hf)
      clear hf hl HN hn
      generalize L.length = n at *
      go_enter Tryd.func12, Tryd.ntmps12
      go_wp2_with fail
      refine HF.out.mono ?_
      rintro e w1 ⟨rfl, d, rfl⟩
      have HC1 : Hid (CameF a n L (w.drewN d)) := Lib.hid (HC.out.below (below_drewN (Below.refl _ _) d) (Nat.le_refl _))
      have B1 : Hid (Below w.heap.size w (w.drewN d)) := Lib.hid (below_drewN (Below.refl _ _) d)
      generalize w.drewN d = w1 at *
      go_wp2_with fail
      refine (HL.out _).mono ?_
      rintro e w2 ⟨rfl, rfl⟩
      go_wp2_with fail
      refine (HT.out _ HC1.out).mono ?_
      rintro e w2 ⟨v, r, c, rfl, hc, B2, hcall⟩
      have HCALL := Lib.hid hcall
      have HCC := Lib.hid hc
      clear hcall hc B2
      go_wp2_with fail
      refine HCALL.out.mono ?_
      rintro e w3 ⟨rfl, O3, B3⟩
      have OO := Lib.hid O3
      have BB : Hid (Below w.heap.size w w3) := Lib.hid (B1.out.trans (B3.mono B1.out.size))
      obtain ⟨ad, cp, e0, _⟩ := O3.came
      subst e0
      clear O3 B3
      go_wp2_with fail
      go_ret2
      exact ⟨_, by rw [HCC.out]; rfl, OO.out.mono B1.out.size, BB.out⟩

end Go.Proofs.YtclflnpbiiimiaaDoor
