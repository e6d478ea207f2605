/- Planes with small steps: unwrapped by rows they come back, and so do their slopes. Condition: steps below half a turn. The law's comparison of two lists of whole numbers that are equal; what program and model answer, the length by itself. Condition: not too many numbers. -/
import Derived.Test.YtjmfffgddmnkmacFdy
import Derived.Test.YtjmfffgddmnkmacM9
import Derived.Deep.QuietTactic
import Derived.BigQuiet
namespace Go.Proofs.Ytjmfffgddmnkmac
open Go Go.RowKit

/-- the height of a plane -/
def plH (m : Nat) (u v : Int) (i : Nat) : Int := u * ((i % m : Nat) : Int) + v * ((i / m : Nat) : Int)
def plL (m : Nat) (u v : Int) (k : Nat) : List Int := (List.range k).map (plH m u v)
theorem plL_len (m : Nat) (u v : Int) (k : Nat) : (plL m u v k).length = k := by simp [plL]
theorem plL_get (m : Nat) (u v : Int) (k i : Nat) (h : i < k) : (plL m u v k).getD i 0 = plH m u v i := by
  unfold plL
  rw [List.getD_eq_getElem?_getD, List.getElem?_map, List.getElem?_range h]; rfl
theorem plL_succ (m : Nat) (u v : Int) (k : Nat) : plL m u v (k + 1) = plL m u v k ++ [plH m u v k] := by
  unfold plL
  rw [List.range_succ, List.map_append]; rfl
theorem plH_right {m i : Nat} (u v : Int) (h : i % m + 1 < m) : plH m u v (i + 1) = plH m u v i + u := by
  have hm : 0 < m := Nat.lt_of_le_of_lt (Nat.zero_le _) h
  have hd := Nat.div_add_mod i m
  have e1 : (i + 1) % m = i % m + 1 := by rw [show i + 1 = m * (i / m) + (i % m + 1) by omega, Nat.mul_add_mod, Nat.mod_eq_of_lt h]
  have e2 : (i + 1) / m = i / m := by rw [show i + 1 = m * (i / m) + (i % m + 1) by omega, Nat.mul_add_div hm, Nat.div_eq_of_lt h]; omega
  unfold plH
  rw [e1, e2, Int.natCast_add, Int.mul_add]
  omega
theorem plH_down {m i : Nat} (u v : Int) (hm : 0 < m) : plH m u v (i + m) = plH m u v i + v := by
  unfold plH
  rw [Nat.add_mod_right, Nat.add_div_right i hm, Int.natCast_add, Int.mul_add]
  omega
theorem plane_unw {m : Nat} {u v : Int} (hm : 1 ≤ m) (hu : -31 ≤ u ∧ u ≤ 31) (hv : -31 ≤ v ∧ v ≤ 31) (N : Nat) : ∀ k, k ≤ N → unw m ((plL m u v N).map wrapH) k = plL m u v k
  | 0, _ => rfl
  | k + 1, hk => by
    have ih := plane_unw hm hu hv N k (by omega)
    have hg : ∀ i, i < N → ((plL m u v N).map wrapH).getD i 0 = wrapH (plH m u v i) := fun i hi => by
      rw [map_wrap_getD _ _ (by rw [plL_len]; exact hi), plL_get _ _ _ _ _ hi]
    rw [unw, ih, plL_succ]
    congr 2
    by_cases h0 : k = 0
    · subst h0
      rw [unwStep_zero, hg 0 (by omega)]
      simp [plH, wrapH]
    · by_cases h : k % m = 0
      · have hmk : m ≤ k := by
          rcases Nat.lt_or_ge k m with h1 | h1
          · rw [Nat.mod_eq_of_lt h1] at h; omega
          · exact h1
        have e := plH_down (i := k - m) u v (show 0 < m from hm)
        rw [Nat.sub_add_cancel hmk] at e
        rw [unwStep_up m _ _ k h0 h, plL_get _ _ _ _ _ (by omega), hg (k - m) (by omega), hg k (by omega), lessH_wrap (by omega) (by omega)]
        omega
      · have hx := Nat.mod_lt k hm
        have hd := Nat.div_add_mod k m
        have e1 : (k - 1) % m + 1 < m := by
          have hlt : k % m - 1 < m := by omega
          rw [show k - 1 = m * (k / m) + (k % m - 1) by omega, Nat.mul_add_mod, Nat.mod_eq_of_lt hlt]; omega
        have e := plH_right u v e1
        rw [Nat.sub_add_cancel (by omega)] at e
        rw [unwStep_left m _ _ k h0 h, plL_get _ _ _ _ _ (by omega), hg (k - 1) (by omega), hg k (by omega), lessH_wrap (by omega) (by omega)]
        omega
theorem mostOf_const {L : List Int} {c : Int} (h : ∀ x ∈ L, x = c) (h0 : 0 < L.length) : mostOf L = c := by
  have hc : c ∈ L := by
    obtain ⟨x, hx⟩ := List.exists_mem_of_length_pos h0
    rw [← h x hx]; exact hx
  exact mostOf_eq (m := L.count c) (.inr ⟨hc, rfl, fun x hx => .inr ⟨by rw [h x hx], by rw [h x hx]; exact Int.le_refl _⟩⟩)
theorem rowsD_plane {m N : Nat} (u v : Int) (hN : m * m = N) : ∀ k, k ≤ N → ∀ x ∈ rowsD m (plL m u v N) k, x = u
  | 0, _ => fun x hx => by simp [rowsD] at hx
  | k + 1, hk => fun x hx => by
    rw [rowsD] at hx
    split at hx
    · rename_i h
      rcases List.mem_append.1 hx with h1 | h1
      · exact rowsD_plane u v hN k (by omega) x h1
      · rw [List.mem_singleton] at h1
        have h2 := right_lt m k N hN h (by omega)
        have e := plH_right (m := m) (i := k) u v (by omega)
        rw [h1, plL_get _ _ _ _ _ h2, plL_get _ _ _ _ _ (by omega)]
        omega
    · exact rowsD_plane u v hN k (by omega) x hx
theorem colsD_plane {m N : Nat} (u v : Int) (hm : 1 ≤ m) (hN : m * m = N) : ∀ k, k ≤ N → ∀ x ∈ colsD m (plL m u v N) k, x = v
  | 0, _ => fun x hx => by simp [colsD] at hx
  | k + 1, hk => fun x hx => by
    rw [colsD] at hx
    split at hx
    · rename_i h
      rcases List.mem_append.1 hx with h1 | h1
      · exact colsD_plane u v hm hN k (by omega) x h1
      · rw [List.mem_singleton] at h1
        have h2 := below_lt m k N hN h
        have e := plH_down (m := m) (i := k) u v hm
        rw [h1, plL_get _ _ _ _ _ h2, plL_get _ _ _ _ _ (by omega)]
        omega
    · exact colsD_plane u v hm hN k (by omega) x hx
theorem rowsD_pos {m : Nat} (L : List Int) (hm : 2 ≤ m) : ∀ k, 1 ≤ k → 0 < (rowsD m L k).length
  | 1, _ => by rw [rowsD, if_pos (by rw [Nat.zero_mod]; omega), List.length_append]; simp
  | k + 2, _ => by
    have ih := rowsD_pos L hm (k + 1) (by omega)
    rw [rowsD]
    split
    · rw [List.length_append]; omega
    · exact ih
theorem colsD_pos {m : Nat} (L : List Int) (hm : 2 ≤ m) : ∀ k, 1 ≤ k → 0 < (colsD m L k).length
  | 1, _ => by rw [colsD, if_pos (by rw [Nat.zero_div]; omega), List.length_append]; simp
  | k + 2, _ => by
    have ih := colsD_pos L hm (k + 1) (by omega)
    rw [colsD]
    split
    · rw [List.length_append]; omega
    · exact ih
/-- the slopes of a plane -/
theorem plane_slopes {m N : Nat} (u v : Int) (hm : 2 ≤ m) (hN : m * m = N) : mostOf (rowsD m (plL m u v N) N) = u ∧ mostOf (colsD m (plL m u v N) N) = v := by
  have hp : 1 ≤ N := by rw [← hN]; exact Nat.mul_le_mul (show 1 ≤ m by omega) (show 1 ≤ m by omega)
  exact ⟨mostOf_const (rowsD_plane u v hN N (Nat.le_refl _)) (rowsD_pos _ hm N hp), mostOf_const (colsD_plane u v (by omega) hN N (Nat.le_refl _)) (colsD_pos _ hm N hp)⟩

end Go.Proofs.Ytjmfffgddmnkmac

namespace Go.Proofs.Ytjmfffgddmnkmac
open Go Go.RowKit

theorem drewN_twoI (w : World) (a b : Nat) : (w.drewN a).drewN b = w.drewN (a + b) := by
  unfold World.drewN
  simp [Nat.add_assoc]
set_option maxRecDepth 100000 in
set_option maxHeartbeats 800000 in
theorem likeI (a1 a2 : Option Addr) (n c1 c2 : Nat) (A : List Int) (w : World) (h1 : Came a1 n A w) (h2 : Came a2 n A w) (hn : n ≤ 1048576) :
    Calls Try.prog 11 #[.slice a1 n c1, .slice a2 n c2] w fun e w' => e = .returned (.bool true) ∧ ∃ d, w' = w.drewN d := by
  have H1 := Lib.hid h1
  have H2 := Lib.hid h2
  clear h1 h2
  have hnn : ((n : Int) != n) = false := by simp
  go_enter Try.func11, Try.ntmps11
  go_wp2
  go_loopw [5] (fun i wr => ∃ k d : Nat, k ≤ n ∧ i = .int .i64 k ∧ wr = w.drewN d) (fun i _ => n - (intOf i).toNat)
  case atStart => exact ⟨0, 0, by omega, rfl, rfl⟩
  case round =>
    obtain ⟨k, d, hk, rfl, hwr⟩ := hrel
    by_cases hlt : k < n
    · have hdk : decide ((k : Int) < (n : Int)) = true := by simp; omega
      obtain ⟨b1, o1, rfl, hb1, hc1⟩ := H1.out.2 (by omega)
      obtain ⟨b2, o2, rfl, hb2, hc2⟩ := H2.out.2 (by omega)
      have p1 : wr.cell? ⟨b1, o1 + k, none⟩ = some (.int .i64 (A.getD k 0)) := by rw [hwr]; exact hc1 k hlt
      have p2 : wr.cell? ⟨b2, o2 + k, none⟩ = some (.int .i64 (A.getD k 0)) := by rw [hwr]; exact hc2 k hlt
      clear hb1 hc1 hb2 hc2
      generalize A.getD k 0 = x at *
      have HW := Lib.hid hwr
      clear hwr
      have hxx : (x != x) = false := by simp
      have hk0 : (0 : Int) ≤ (k : Int) := by omega
      have hkL : (k : Int) < (n : Int) := by omega
      go_wp2_with fail
      go_quiet (fail)
      go_wp2_with fail
      exact ⟨⟨k + 1, d + nq, by omega, by go_num, by rw [HW.out]; exact drewN_twoI w d nq⟩, by simp [intOf]; omega⟩
    · obtain rfl : k = n := by omega
      go_wp2
      go_ret
      exact ⟨rfl, d, by first | exact hwr | rfl⟩

/-- a list and a code -/
def AnsI (n : Nat) (L : List Int) (c : Int) (w : World) (e : Ending) (w' : World) : Prop :=
  ∃ a cap, e = .returned (.tuple #[.slice a n cap, .int .i64 c]) ∧ Own w.heap.size (.slice a n cap) L w' ∧ Came a n L w' ∧ Below w.heap.size w w'
theorem ansI_of {n : Nat} {L : List Int} {c : Int} {w : World} {e : Ending} {w' : World} (hl : L.length = n) (h : ∃ r, e = .returned (.tuple #[r, .int .i64 c]) ∧ Own w.heap.size r L w' ∧ Below w.heap.size w w') : AnsI n L c w e w' := by
  obtain ⟨r, h1, h2, h3⟩ := h
  obtain ⟨a, cap, rfl, h4⟩ := h2.came
  subst hl
  exact ⟨a, cap, h1, h2, h4, h3⟩
/-- what was asked of lists, with the length by itself -/
theorem Lists.ans {f : FuncId} {n : Int} {L R : List Int} {c : Int} (h : Lists f n L R c) (hL : L.length ≤ 1048576) (v : Value) (w : World) (hO : Own 0 v L w) (k : Nat) (hk : R.length = k) :
    Calls Try.prog f #[.int .i64 n, v] w (AnsI k R c w) := (h hL v w hO).mono fun _ _ h => ansI_of hk h

end Go.Proofs.Ytjmfffgddmnkmac
