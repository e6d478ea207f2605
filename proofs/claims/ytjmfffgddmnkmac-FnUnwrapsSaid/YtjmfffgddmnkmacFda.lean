/- Maps unwrapped by a flood, as lists of whole numbers: a hop to a neighbour, the visit of a cell, the flood; its bounds; what holds of every cell that it meets. Condition: none. -/
import Derived.Test.YtjmfffgddmnkmacUw
namespace Go.Proofs.Ytjmfffgddmnkmac
open Go Go.RowKit

/-- heights, open cells that are not met, cells met in order -/
structure FS where
  H : List Int
  U : List Bool
  Q : List Int

def wayY : Nat → Int
  | 0 => 0
  | 1 => 1
  | 2 => 0
  | _ => -1
def wayX : Nat → Int
  | 0 => 1
  | 1 => 0
  | 2 => -1
  | _ => 0
/-- row and column of the neighbour in the direction i -/
def rowTo (m a i : Nat) : Int := ((a / m : Nat) : Int) + wayY i
def colTo (m a i : Nat) : Int := ((a % m : Nat) : Int) + wayX i
/-- a row or a column of the map -/
def inG (m : Nat) (k : Int) : Bool := decide (0 ≤ k) && decide (k ≤ (m : Int) - 1)
def insTo (m a i : Nat) : Bool := inG m (rowTo m a i) && inG m (colTo m a i)
/-- its place -/
def plcTo (m a i : Nat) : Nat := m * (rowTo m a i).toNat + (colTo m a i).toNat

def hop (m : Nat) (L : List Int) (a : Nat) (s : FS) (i : Nat) : FS :=
  if (insTo m a i && s.U.getD (plcTo m a i) false) = true then
    ⟨s.H.set (plcTo m a i) (s.H.getD a 0 + lessH (L.getD a 0) (L.getD (plcTo m a i) 0)), s.U.set (plcTo m a i) false, s.Q ++ [((plcTo m a i : Nat) : Int)]⟩
  else s
def hops (m : Nat) (L : List Int) (a : Nat) (s : FS) : Nat → FS
  | 0 => s
  | i + 1 => hop m L a (hops m L a s i) i
def flo (m : Nat) (L : List Int) (s : FS) : Nat → FS
  | 0 => s
  | k + 1 => if k < (flo m L s k).Q.length then hops m L ((flo m L s k).Q.getD k 0).toNat (flo m L s k) 4 else flo m L s k

theorem inG_in {m : Nat} {k : Int} (h : inG m k = true) : 0 ≤ k ∧ k < m := by
  unfold inG at h
  simp only [Bool.and_eq_true, decide_eq_true_eq] at h
  omega
theorem plcTo_int {m a i : Nat} (h : insTo m a i = true) : ((plcTo m a i : Nat) : Int) = (m : Int) * rowTo m a i + colTo m a i := by
  unfold insTo at h
  simp only [Bool.and_eq_true] at h
  have h1 := inG_in h.1
  have h2 := inG_in h.2
  unfold plcTo
  rw [Int.natCast_add, Int.natCast_mul, Int.toNat_of_nonneg h1.1, Int.toNat_of_nonneg h2.1]
theorem plcTo_lt {m a i N : Nat} (hN : m * m = N) (h : insTo m a i = true) : plcTo m a i < N := by
  unfold insTo at h
  simp only [Bool.and_eq_true] at h
  have h1 := inG_in h.1
  have h2 := inG_in h.2
  unfold plcTo
  have h3 : (rowTo m a i).toNat + 1 ≤ m := by omega
  have h4 := Nat.mul_le_mul_left m h3
  rw [Nat.mul_succ, hN] at h4
  omega
theorem plcTo_ne {m a i : Nat} (hm : 1 ≤ m) (h : insTo m a i = true) : a ≠ plcTo m a i := by
  intro e
  have h1 := plcTo_int h
  rw [← e] at h1
  have h2 : (a : Int) = (m : Int) * ((a / m : Nat) : Int) + ((a % m : Nat) : Int) := by rw [← Int.natCast_mul, ← Int.natCast_add, Nat.div_add_mod]
  unfold rowTo colTo at h1
  rw [Int.mul_add] at h1
  have h3 : (m : Int) * wayY i + wayX i = 0 := by omega
  match i with
  | 0 => simp [wayY, wayX] at h3
  | 1 => simp [wayY, wayX] at h3; omega
  | 2 => simp [wayY, wayX] at h3
  | i + 3 => simp [wayY, wayX] at h3; omega

/-- how many are true -/
def cntT : List Bool → Nat
  | [] => 0
  | b :: l => (if b then 1 else 0) + cntT l
theorem cntT_set (U : List Bool) (i : Nat) (h : U.getD i false = true) : cntT (U.set i false) + 1 = cntT U := by
  induction U generalizing i with
  | nil => simp at h
  | cons b l ih =>
    cases i with
    | zero => simp at h; subst h; simp [cntT]; omega
    | succ j =>
      simp only [List.getD_cons_succ] at h
      have := ih j h
      simp only [List.set_cons_succ, cntT]
      omega
theorem cntT_le (U : List Bool) : cntT U ≤ U.length := by
  induction U with
  | nil => exact Nat.le_refl _
  | cons b l ih => simp only [cntT, List.length_cons]; split <;> omega
theorem cntT_less (U : List Bool) (i : Nat) (h : i < U.length) : cntT (U.set i false) + 1 ≤ U.length := by
  induction U generalizing i with
  | nil => simp at h
  | cons b l ih =>
    cases i with
    | zero => have := cntT_le l; simp only [List.set_cons_zero, cntT, List.length_cons]; simp; omega
    | succ j =>
      have := ih j (by simpa using h)
      simp only [List.set_cons_succ, cntT, List.length_cons]
      split <;> omega

theorem getD_set_same {α : Type} (l : List α) (i : Nat) (x d : α) (h : i < l.length) : (l.set i x).getD i d = x := by
  rw [List.getD_eq_getElem?_getD, List.getElem?_set_self h]; rfl
theorem getD_set_ne {α : Type} (l : List α) (i j : Nat) (x d : α) (h : i ≠ j) : (l.set i x).getD j d = l.getD j d := by
  rw [List.getD_eq_getElem?_getD, List.getD_eq_getElem?_getD, List.getElem?_set_ne h]
theorem getD_true_lt {U : List Bool} {i : Nat} (h : U.getD i false = true) : i < U.length := by
  rcases Nat.lt_or_ge i U.length with h1 | h1
  · exact h1
  · rw [List.getD_eq_getElem?_getD, List.getElem?_eq_none h1] at h; cases h

/-- what holds of a flood all the time: G of each cell that is met -/
structure Fl (N : Nat) (O : Nat → Bool) (G : Nat → Int → Prop) (s : FS) : Prop where
  hlen : s.H.length = N
  ulen : s.U.length = 64
  met : ∀ i, i < s.Q.length → ∃ a : Nat, s.Q.getD i 0 = a ∧ a < N ∧ s.U.getD a false = false ∧ G a (s.H.getD a 0)
  left : ∀ i, i < N → O i = true → s.U.getD i false = true ∨ (i : Int) ∈ s.Q
  cnt : cntT s.U + s.Q.length ≤ 64
  bd : ∀ i, -(64 * (s.Q.length : Int)) ≤ s.H.getD i 0 ∧ s.H.getD i 0 ≤ 64 * (s.Q.length : Int)

theorem Fl.hop {m N : Nat} {L : List Int} {O : Nat → Bool} {G : Nat → Int → Prop} {s : FS} (h : Fl N O G s) (hN : m * m = N) (a i : Nat)
    (hua : s.U.getD a false = false) (hg : G a (s.H.getD a 0)) (hG : insTo m a i = true → ∀ x, G a x → G (plcTo m a i) (x + lessH (L.getD a 0) (L.getD (plcTo m a i) 0))) :
    Fl N O G (hop m L a s i) ∧ (hop m L a s i).U.getD a false = false ∧ (hop m L a s i).H.getD a 0 = s.H.getD a 0 := by
  by_cases hc : (insTo m a i && s.U.getD (plcTo m a i) false) = true
  · unfold Go.Proofs.Ytjmfffgddmnkmac.hop
    rw [if_pos hc]
    simp only [Bool.and_eq_true] at hc
    have hp := plcTo_lt hN hc.1
    have hG := hG hc.1
    have hu := hc.2
    generalize plcTo m a i = p at *
    have hul := getD_true_lt hu
    have hpa : p ≠ a := by intro e; rw [e, hua] at hu; cases hu
    have hl := lessH_range (L.getD a 0) (L.getD p 0)
    refine ⟨⟨by rw [List.length_set]; exact h.hlen, by rw [List.length_set]; exact h.ulen, ?_, ?_, ?_, ?_⟩, ?_, ?_⟩
    · intro j hj
      rw [List.length_append, List.length_singleton] at hj
      rw [getD_append_one]
      by_cases h1 : j < s.Q.length
      · rw [if_pos h1]
        obtain ⟨b, hb1, hb2, hb3, hb4⟩ := h.met j h1
        have hpb : p ≠ b := by intro e; rw [← e, hu] at hb3; cases hb3
        exact ⟨b, hb1, hb2, by rw [getD_set_ne _ _ _ _ _ hpb]; exact hb3, by rw [getD_set_ne _ _ _ _ _ hpb]; exact hb4⟩
      · rw [if_neg h1, if_pos (by omega)]
        exact ⟨p, rfl, hp, getD_set_same _ _ _ _ hul, by rw [getD_set_same _ _ _ _ (by rw [h.hlen]; exact hp)]; exact hG _ hg⟩
    · intro j hj hO
      by_cases e : p = j
      · right; rw [← e]; exact List.mem_append_right _ (List.mem_singleton.2 rfl)
      · rcases h.left j hj hO with h1 | h1
        · left; rw [getD_set_ne _ _ _ _ _ e]; exact h1
        · right; exact List.mem_append_left _ h1
    · have := cntT_set s.U p hu
      have := h.cnt
      rw [List.length_append, List.length_singleton]
      show cntT (s.U.set p false) + _ ≤ 64
      omega
    · intro j
      rw [List.length_append, List.length_singleton]
      push_cast
      have hb := h.bd j
      have hb2 := h.bd a
      show _ ≤ (s.H.set p _).getD j 0 ∧ (s.H.set p _).getD j 0 ≤ _
      by_cases e : p = j
      · rw [← e, getD_set_same _ _ _ _ (by rw [h.hlen]; exact hp)]; omega
      · rw [getD_set_ne _ _ _ _ _ e]; omega
    · show (s.U.set p false).getD a false = false
      rw [getD_set_ne _ _ _ _ _ hpa]; exact hua
    · show (s.H.set p _).getD a 0 = _
      rw [getD_set_ne _ _ _ _ _ hpa]
  · unfold Go.Proofs.Ytjmfffgddmnkmac.hop
    rw [if_neg hc]
    exact ⟨h, hua, rfl⟩

/-- what a hop wants of G -/
def Hops (m N : Nat) (L : List Int) (G : Nat → Int → Prop) : Prop := ∀ a i, a < N → i < 4 → insTo m a i = true → ∀ x, G a x → G (plcTo m a i) (x + lessH (L.getD a 0) (L.getD (plcTo m a i) 0))

theorem Fl.hops {m N : Nat} {L : List Int} {O : Nat → Bool} {G : Nat → Int → Prop} {s : FS} (h : Fl N O G s) (hN : m * m = N) (hG : Hops m N L G) (a : Nat) (ha : a < N)
    (hua : s.U.getD a false = false) (hg : G a (s.H.getD a 0)) : ∀ i, i ≤ 4 → Fl N O G (hops m L a s i) ∧ (hops m L a s i).U.getD a false = false ∧ (hops m L a s i).H.getD a 0 = s.H.getD a 0
  | 0, _ => ⟨h, hua, rfl⟩
  | i + 1, hi => by
    obtain ⟨h1, h2, h3⟩ := Fl.hops h hN hG a ha hua hg i (by omega)
    obtain ⟨h4, h5, h6⟩ := h1.hop (L := L) hN a i h2 (by rw [h3]; exact hg) (hG a i ha (by omega))
    exact ⟨h4, h5, h6.trans h3⟩

theorem Fl.flo {m N : Nat} {L : List Int} {O : Nat → Bool} {G : Nat → Int → Prop} {s : FS} (h : Fl N O G s) (hN : m * m = N) (hG : Hops m N L G) : ∀ k, Fl N O G (flo m L s k)
  | 0 => h
  | k + 1 => by
    have h1 := Fl.flo h hN hG k
    unfold Go.Proofs.Ytjmfffgddmnkmac.flo
    split
    · rename_i hk
      obtain ⟨a, ha1, ha2, ha3, ha4⟩ := h1.met k hk
      rw [ha1]
      exact (h1.hops hN hG a ha2 ha3 ha4 4 (Nat.le_refl _)).1
    · exact h1

theorem flo_succ (m : Nat) (L : List Int) (s : FS) (k : Nat) : flo m L s (k + 1) = if k < (flo m L s k).Q.length then hops m L ((flo m L s k).Q.getD k 0).toNat (flo m L s k) 4 else flo m L s k := rfl
theorem flo_stop {m : Nat} {L : List Int} {s : FS} {k : Nat} (h : (flo m L s k).Q.length ≤ k) : ∀ j, flo m L s (k + j) = flo m L s k
  | 0 => rfl
  | j + 1 => by
    have h1 := flo_stop h j
    rw [show k + (j + 1) = (k + j) + 1 from rfl, flo_succ, h1, if_neg (by omega)]

/-- where a flood begins -/
def flo0 (N p : Nat) (L : List Int) (O : Nat → Bool) : FS := ⟨(List.replicate N 0).set p (L.getD p 0), ((List.range 64).map O).set p false, [(p : Int)]⟩

theorem rep_get (N i : Nat) : (List.replicate N (0 : Int)).getD i 0 = 0 := by
  rw [List.getD_eq_getElem?_getD, List.getElem?_replicate]
  split <;> rfl
theorem range_get (O : Nat → Bool) (i : Nat) (hi : i < 64) : ((List.range 64).map O).getD i false = O i := by
  rw [List.getD_eq_getElem?_getD, List.getElem?_map, List.getElem?_range hi]; rfl

theorem Fl.start {N p : Nat} {L : List Int} {O : Nat → Bool} {G : Nat → Int → Prop} (hN : N ≤ 64) (hp : p < N) (hL : 0 ≤ L.getD p 0 ∧ L.getD p 0 ≤ 63) (hg : G p (L.getD p 0)) : Fl N O G (flo0 N p L O) := by
  have hl : ((List.range 64).map O).length = 64 := by simp
  refine ⟨by simp [flo0], by simp [flo0], ?_, ?_, ?_, ?_⟩
  · intro i hi
    simp only [flo0, List.length_singleton] at hi
    obtain rfl : i = 0 := by omega
    refine ⟨p, rfl, hp, getD_set_same _ _ _ _ (by rw [hl]; omega), ?_⟩
    show G p (((List.replicate N 0).set p (L.getD p 0)).getD p 0)
    rw [getD_set_same _ _ _ _ (by rw [List.length_replicate]; exact hp)]
    exact hg
  · intro i hi hO
    by_cases e : p = i
    · right; rw [← e]; exact List.mem_singleton.2 rfl
    · left
      show (((List.range 64).map O).set p false).getD i false = true
      rw [getD_set_ne _ _ _ _ _ e, range_get O i (by omega)]
      exact hO
  · show cntT (((List.range 64).map O).set p false) + 1 ≤ 64
    have := cntT_less ((List.range 64).map O) p (by rw [hl]; omega)
    rw [hl] at this
    exact this
  · intro i
    show -(64 * ((1 : Nat) : Int)) ≤ ((List.replicate N 0).set p (L.getD p 0)).getD i 0 ∧ ((List.replicate N 0).set p (L.getD p 0)).getD i 0 ≤ 64 * ((1 : Nat) : Int)
    by_cases e : p = i
    · rw [← e, getD_set_same _ _ _ _ (by rw [List.length_replicate]; exact hp)]; omega
    · rw [getD_set_ne _ _ _ _ _ e, rep_get]; omega

/-- the flood's answer -/
def resFl (m N p : Nat) (L : List Int) (O : Nat → Bool) : List Int := (flo m L (flo0 N p L O) 64).H
theorem hops_true (m N : Nat) (L : List Int) : Hops m N L (fun _ _ => True) := fun _ _ _ _ _ _ _ => trivial
theorem fl_any {m N p : Nat} {L : List Int} {O : Nat → Bool} (hN : m * m = N) (h64 : N ≤ 64) (hp : p < N) (hL : 0 ≤ L.getD p 0 ∧ L.getD p 0 ≤ 63) (k : Nat) : Fl N O (fun _ _ => True) (flo m L (flo0 N p L O) k) :=
  (Fl.start (G := fun _ _ => True) h64 hp hL trivial).flo hN (hops_true m N L) k
theorem resFl_len {m N p : Nat} {L : List Int} {O : Nat → Bool} (hN : m * m = N) (h64 : N ≤ 64) (hp : p < N) (hL : 0 ≤ L.getD p 0 ∧ L.getD p 0 ≤ 63) : (resFl m N p L O).length = N :=
  (fl_any hN h64 hp hL 64).hlen
/-- at the end of the list of cells that are met the flood is done -/
theorem resFl_end {m N p : Nat} {L : List Int} {O : Nat → Bool} (hN : m * m = N) (h64 : N ≤ 64) (hp : p < N) (hL : 0 ≤ L.getD p 0 ∧ L.getD p 0 ≤ 63) (k : Nat) (hk : k = (flo m L (flo0 N p L O) k).Q.length) :
    (flo m L (flo0 N p L O) k).H = resFl m N p L O := by
  have h1 := (fl_any (O := O) hN h64 hp hL k).cnt
  obtain ⟨j, hj⟩ : ∃ j, 64 = k + j := ⟨64 - k, by omega⟩
  unfold resFl
  rw [hj, flo_stop (by omega)]

end Go.Proofs.Ytjmfffgddmnkmac
