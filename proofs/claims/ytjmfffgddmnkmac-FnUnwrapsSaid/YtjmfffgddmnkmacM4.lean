/- The program's and the model's ways to ask whether a number is a side answer alike. Condition: none. Lists of whole numbers that lie in memory: what a call knows of a list that came in, and of one that it made itself. Condition: none. Heights as whole numbers: what it is to wrap one, the wrapped difference of two, which lists are height maps. Condition: none. -/
import Derived.Test.YtjmfffgddmnkmacM3
import Derived.Test.YtjmfffgddmnkmacProg
import Derived.WalkKit
import Derived.Below
import Derived.Laws.OwnMore
import Derived.OwnWalk
import Derived.Deep.Onto
namespace Go.Proofs.Ytjmfffgddmnkmac
open Go Go.RowKit

/-- the powers of two up to 64 -/
def pow64 (n : Int) : Bool := n == 1 || n == 2 || n == 4 || n == 8 || n == 16 || n == 32 || n == 64
theorem and_prev : ∀ k : Fin 65, (bits .and .i64 (k.val : Int) ((k.val : Int) - 1) == 0) = (pow64 (k.val : Int) || (k.val : Int) == 0) := by decide +kernel
theorem pow64_not (n : Int) (h : n < 1 ∨ 64 < n) : pow64 n = false := by
  unfold pow64
  simp only [Bool.or_eq_false_iff, beq_eq_false_iff_ne]
  omega
theorem powOf_lo (n m : Int) (h : n < 1) (w : World) : Calls Try.prog 70 #[.int .i64 n, .int .i64 m] w fun e w' => e = .returned (.bool false) ∧ w = w' := by
  have h1 : decide (n ≥ 1) = false := by simp; omega
  go_enter Try.func70, Try.ntmps70
  go_wp2
  go_ret
  exact ⟨rfl, rfl⟩
theorem powOf_hi (n m : Int) (h0 : 1 ≤ n) (h : m < n) (w : World) : Calls Try.prog 70 #[.int .i64 n, .int .i64 m] w fun e w' => e = .returned (.bool false) ∧ w = w' := by
  have h1 : decide (n ≤ m) = false := by simp; omega
  go_enter Try.func70, Try.ntmps70
  go_wp2
  go_ret
  exact ⟨rfl, rfl⟩
theorem powOf_mid (n m : Int) (h0 : 1 ≤ n) (h : n ≤ m) (hm : m ≤ 64) (w : World) : Calls Try.prog 70 #[.int .i64 n, .int .i64 m] w fun e w' => e = .returned (.bool (pow64 n)) ∧ w = w' := by
  have h1 : decide (n ≥ 1) = true := by simp; omega
  have h2 : decide (n ≤ m) = true := by simp; omega
  have h3 : IntKind.i64.wrap (n - 1) = n - 1 := IntWalk.i64_in _ (by omega)
  have h4 : (bits .and .i64 n (n - 1) == 0) = pow64 n := by
    have := and_prev ⟨n.toNat, by omega⟩
    simp only [Int.toNat_of_nonneg (show 0 ≤ n by omega)] at this
    rw [this, show (n == 0) = false by simp; omega, Bool.or_false]
  go_enter Try.func70, Try.ntmps70
  go_wp2
  go_ret
  exact ⟨by rw [← h4]; rfl, rfl⟩
theorem powOf_any (n m : Int) (hm : m ≤ 64) (w : World) : Calls Try.prog 70 #[.int .i64 n, .int .i64 m] w fun e w' => e = .returned (.bool (decide (n ≤ m) && pow64 n)) ∧ w = w' := by
  rcases Int.lt_or_le n 1 with h | h
  · rw [pow64_not n (.inl h), Bool.and_false]; exact powOf_lo n m h w
  · rcases Int.lt_or_le m n with h' | h'
    · rw [show decide (n ≤ m) = false by simp; omega, Bool.false_and]; exact powOf_hi n m h h' w
    · rw [show decide (n ≤ m) = true by simp; omega, Bool.true_and]; exact powOf_mid n m h h' hm w

theorem side_not (n : Int) (h : n < 1 ∨ 8 < n) : side n = false := by
  unfold side
  simp only [Bool.or_eq_false_iff, beq_eq_false_iff_ne]
  omega

theorem isSide_any (n : Int) (w : World) : Calls Try.prog 40 #[.int .i64 n] w fun e w' => e = .returned (.bool (side n)) ∧ w = w' := by
  have hs : (decide (n ≤ 8) && pow64 n) = side n := by
    rcases Int.lt_or_le n 1 with h | h
    · rw [pow64_not n (.inl h), side_not n (.inl h), Bool.and_false]
    · rcases Int.lt_or_le 8 n with h' | h'
      · rw [show decide (n ≤ 8) = false by simp; omega, side_not n (.inr h'), Bool.false_and]
      · rw [show decide (n ≤ 8) = true by simp; omega, Bool.true_and]
        unfold pow64 side
        rw [show (n == 16) = false by simp; omega, show (n == 32) = false by simp; omega, show (n == 64) = false by simp; omega]
        simp only [Bool.or_false]
  have HC := powOf_any n 8 (by omega) w
  rw [hs] at HC
  go_enter Try.func40, Try.ntmps40
  go_wp2_with fail
  refine HC.mono ?_
  rintro e w' ⟨rfl, rfl⟩
  go_wp2
  go_ret
  exact ⟨rfl, rfl⟩

theorem l01Side_no (n : Int) (h : side n = false) (w : World) : Calls Try.prog 49 #[.int .i64 n] w fun e w' => e = .returned (.bool false) ∧ w = w' := by
  unfold side at h
  simp only [Bool.or_eq_false_iff] at h
  obtain ⟨⟨⟨h1, h2⟩, h3⟩, h4⟩ := h
  go_enter Try.func49, Try.ntmps49
  go_wp2
  go_ret
  exact ⟨rfl, rfl⟩
theorem side_yes (n : Int) (h : side n = true) : n = 1 ∨ n = 2 ∨ n = 4 ∨ n = 8 := by
  unfold side at h
  simp only [Bool.or_eq_true, beq_iff_eq] at h
  omega
theorem l01Side_any (n : Int) (w : World) : Calls Try.prog 49 #[.int .i64 n] w fun e w' => e = .returned (.bool (side n)) ∧ w = w' := by
  cases h : side n
  · exact l01Side_no n h w
  · rcases side_yes n h with rfl | rfl | rfl | rfl
    · exact calls_of (fun _ => false) (known_none _) 99 (fun cs => by kernel_rfl)
    · exact calls_of (fun _ => false) (known_none _) 99 (fun cs => by kernel_rfl)
    · exact calls_of (fun _ => false) (known_none _) 99 (fun cs => by kernel_rfl)
    · exact calls_of (fun _ => false) (known_none _) 99 (fun cs => by kernel_rfl)

end Go.Proofs.Ytjmfffgddmnkmac

namespace Go.Proofs.Ytjmfffgddmnkmac
open Go Go.RowKit

/-- the slice v lies in a block from B on and holds the whole numbers L -/
def Own (B : Nat) (v : Value) (L : List Int) (w : World) : Prop := w.ownsRow B 2 1 v L.length (L.map (Value.int .i64))

theorem Own.zero (B : Nat) (w : World) : Own B (.slice none 0 0) [] w := World.ownsRow_nil _ _ _ _
theorem Own.mono {B B' : Nat} {v : Value} {L : List Int} {w : World} (h : Own B v L w) (hb : B' ≤ B) : Own B' v L w := World.ownsRow.mono h hb
theorem Own.alloc {B : Nat} {v : Value} {L : List Int} {w : World} (h : Own B v L w) (o : Obj) : Own B v L (w.alloc o) := World.ownsRow.alloc h o
theorem Own.drew {B : Nat} {v : Value} {L : List Int} {w : World} (h : Own B v L w) : Own B v L w.drew := h

theorem Own.below {B C : Nat} {v : Value} {L : List Int} {w u : World} (h : Own B v L w) (k : Below C w u) (hC : w.heap.size ≤ C) : Own B v L u := by
  refine ⟨h.1, ?_⟩
  rcases h.2 with h2 | ⟨g, cap, cur, hv, hb, hg, r⟩
  · exact .inl h2
  · have hlt : g < w.heap.size := by
      rcases Nat.lt_or_ge g w.heap.size with h | h
      · exact h
      · rw [Array.getElem?_eq_none h] at hg; cases hg
    exact .inr ⟨g, cap, cur, hv, hb, by rw [k.block g (by omega)]; exact hg, r⟩

/-- a list that isn't empty lies in a block -/
theorem Own.form {B : Nat} {v : Value} {L : List Int} {w : World} (h : Own B v L w) (h0 : 0 < L.length) :
    ∃ g cap, v = .slice (some ⟨g, 0, none⟩) L.length cap ∧ B ≤ g ∧ g < w.heap.size := by
  rcases h.2 with ⟨_, h2⟩ | ⟨g, cap, cur, hv, hb, hg, r⟩
  · omega
  · have hlt : g < w.heap.size := by
      rcases Nat.lt_or_ge g w.heap.size with h | h
      · exact h
      · rw [Array.getElem?_eq_none h] at hg; cases hg
    exact ⟨g, cap, hv, hb, hlt⟩

/-- it is one with no address or one at the head of a block -/
theorem Own.kind {B : Nat} {v : Value} {L : List Int} {w : World} (h : Own B v L w) :
    (L = [] ∧ v = .slice none 0 0) ∨ ∃ g cap, v = .slice (some ⟨g, 0, none⟩) L.length cap ∧ B ≤ g ∧ g < w.heap.size := by
  rcases h.2 with ⟨hv, h2⟩ | ⟨g, cap, cur, hv, hb, hg, r⟩
  · exact .inl ⟨List.length_eq_zero_iff.1 h2, hv⟩
  · have hlt : g < w.heap.size := by
      rcases Nat.lt_or_ge g w.heap.size with h | h
      · exact h
      · rw [Array.getElem?_eq_none h] at hg; cases hg
    exact .inr ⟨g, cap, hv, hb, hlt⟩

theorem take_succ_getD (L : List Int) (k : Nat) (hk : k < L.length) : L.take (k + 1) = L.take k ++ [L.getD k 0] := by
  rw [List.take_add_one, List.getD_eq_getElem?_getD, List.getElem?_eq_getElem hk]; rfl
theorem map_getD (L : List Int) (i : Nat) (h : i < L.length) : (L.map (Value.int .i64))[i]? = some (.int .i64 (L.getD i 0)) := by
  rw [List.getElem?_map, List.getElem?_eq_getElem h, List.getD_eq_getElem?_getD, List.getElem?_eq_getElem h]; rfl

theorem Own.cell {B g cap : Nat} {L : List Int} {w : World} (h : Own B (.slice (some ⟨g, 0, none⟩) L.length cap) L w) (i : Nat) (hi : i < L.length) :
    w.cell? ⟨g, i, none⟩ = some (.int .i64 (L.getD i 0)) := by
  rw [World.ownsRow.cellAt h i (by omega)]
  exact map_getD L i hi

theorem Own.free {B g cap : Nat} {L : List Int} {w : World} (h : Own B (.slice (some ⟨g, 0, none⟩) L.length cap) L w) (i : Nat) :
    w.frozen? ⟨g, i, none⟩ = false := World.ownsRow.frozenAt h _

theorem Own.stored {B g cap : Nat} {L : List Int} {w : World} (h : Own B (.slice (some ⟨g, 0, none⟩) L.length cap) L w) (i : Nat) (x : Int) :
    Own B (.slice (some ⟨g, 0, none⟩) L.length cap) (L.set i x) (w.setCell ⟨g, i, none⟩ (.int .i64 x)) := by
  have h1 := (World.ownsRow.stored h i (.int .i64 x)).1
  unfold Own
  rw [List.length_set, List.map_set]
  exact h1

theorem Own.cap {B g n cap : Nat} {L : List Int} {w : World} (h : Own B (.slice (some ⟨g, 0, none⟩) n cap) L w) : n = L.length ∧ L.length ≤ cap ∧ cap ≤ maxLen := by
  rcases h.2 with ⟨hv, _⟩ | ⟨g', cap', cur, hv, hb, hg, hn, hm, _⟩
  · cases hv
  · cases hv
    exact ⟨rfl, hn, hm⟩

/-- what is known of a list that came in -/
def Came (a : Option Addr) (n : Nat) (L : List Int) (w : World) : Prop :=
  L.length = n ∧ (0 < n → ∃ b off, a = some ⟨b, off, none⟩ ∧ b < w.heap.size ∧ ∀ i, i < n → w.cell? ⟨b, off + i, none⟩ = some (.int .i64 (L.getD i 0)))

theorem Came.below {C : Nat} {a : Option Addr} {n : Nat} {L : List Int} {w u : World} (h : Came a n L w) (k : Below C w u) (hC : w.heap.size ≤ C) : Came a n L u := by
  refine ⟨h.1, fun hn => ?_⟩
  obtain ⟨b, off, ha, hb, hc⟩ := h.2 hn
  exact ⟨b, off, ha, by have := k.size; omega, fun i hi => by rw [k.cell (p := ⟨b, off + i, none⟩) (show b < C by omega)]; exact hc i hi⟩

theorem info64 : (Try.prog.info? 2).map (fun i => (i.zero, i.size, i.bytes)) = some (some (.int .i64 0), 1, 8) := by kernel_rfl

end Go.Proofs.Ytjmfffgddmnkmac

namespace Go.Proofs.Ytjmfffgddmnkmac
open Go Go.RowKit

/-- a height, wrapped -/
def wrapH (h : Int) : Int := h % 64
/-- the wrapped difference -/
def lessH (h k : Int) : Int := (k - h + 32) % 64 - 32
/-- a height -/
def isH (h : Int) : Bool := decide (-100000 ≤ h) && decide (h ≤ 100000)
/-- a wrapped height -/
def isW (h : Int) : Bool := decide (0 ≤ h) && decide (h ≤ 63)
/-- a height map of the side n -/
def isMap (n : Int) (L : List Int) : Bool := side n && (decide ((L.length : Int) = n * n) && L.all isH)
/-- the code of a map that has to be wrapped -/
def codeW (n : Int) (L : List Int) : Int := if isMap n L then (if L.all isW then 0 else 5) else 1

theorem wrapH_range (h : Int) : 0 ≤ wrapH h ∧ wrapH h ≤ 63 := by unfold wrapH; omega
theorem lessH_range (h k : Int) : -32 ≤ lessH h k ∧ lessH h k ≤ 31 := by unfold lessH; omega

theorem tmod_range (h : Int) : -64 < h.tmod 64 ∧ h.tmod 64 < 64 := by
  have h1 := Int.tmod_lt_of_pos h (show (0 : Int) < 64 by decide)
  have h2 := Int.lt_tmod_of_pos h (show (0 : Int) < 64 by decide)
  omega
theorem tmod_emod (h : Int) : (h.tmod 64 + 64) % 64 = h % 64 := by
  rcases Int.le_total 0 h with h0 | h0
  · rw [Int.tmod_eq_emod_of_nonneg h0]; omega
  · have e : h.tmod 64 = -((-h) % 64) := by
      rw [← Int.tmod_eq_emod_of_nonneg (by omega : 0 ≤ -h), Int.neg_tmod, Int.neg_neg]
    rw [e]; omega
theorem tmod_neg (h : Int) (h0 : h.tmod 64 < 0) : h.tmod 64 + 64 = h % 64 := by
  have h1 := tmod_range h
  have h2 := tmod_emod h
  rw [← h2]
  omega
theorem tmod_pos (h : Int) (h0 : 0 ≤ h.tmod 64) : h.tmod 64 = h % 64 := by
  have h1 := tmod_range h
  have h2 := tmod_emod h
  omega

theorem isMap_side {n : Int} {L : List Int} (h : isMap n L = true) : side n = true := by
  unfold isMap at h; simp only [Bool.and_eq_true] at h; exact h.1
theorem isMap_len {n : Int} {L : List Int} (h : isMap n L = true) : (L.length : Int) = n * n := by
  unfold isMap at h; simp only [Bool.and_eq_true, decide_eq_true_eq] at h; exact h.2.1
theorem isMap_all {n : Int} {L : List Int} (h : isMap n L = true) (i : Nat) (hi : i < L.length) : -100000 ≤ L.getD i 0 ∧ L.getD i 0 ≤ 100000 := by
  unfold isMap at h
  simp only [Bool.and_eq_true, List.all_eq_true] at h
  have h1 := h.2.2 (L.getD i 0) (by rw [List.getD_eq_getElem?_getD, List.getElem?_eq_getElem hi]; exact List.getElem_mem _)
  unfold isH at h1
  simp only [Bool.and_eq_true, decide_eq_true_eq] at h1
  exact h1
theorem isW_all {L : List Int} (h : L.all isW = true) (i : Nat) (hi : i < L.length) : 0 ≤ L.getD i 0 ∧ L.getD i 0 ≤ 63 := by
  simp only [List.all_eq_true] at h
  have h1 := h (L.getD i 0) (by rw [List.getD_eq_getElem?_getD, List.getElem?_eq_getElem hi]; exact List.getElem_mem _)
  unfold isW at h1
  simp only [Bool.and_eq_true, decide_eq_true_eq] at h1
  exact h1
/-- the side as a small whole number -/
theorem isMap_nat {n : Int} {L : List Int} (h : isMap n L = true) : ∃ m : Nat, n = m ∧ 1 ≤ m ∧ m ≤ 8 ∧ L.length = m * m := by
  have h1 := isMap_len h
  rcases side_yes n (isMap_side h) with rfl | rfl | rfl | rfl
  · exact ⟨1, rfl, by omega, by omega, by omega⟩
  · exact ⟨2, rfl, by omega, by omega, by omega⟩
  · exact ⟨4, rfl, by omega, by omega, by omega⟩
  · exact ⟨8, rfl, by omega, by omega, by omega⟩
theorem isMap_pos {n : Int} {L : List Int} (h : isMap n L = true) : 0 < L.length := by
  obtain ⟨m, _, h1, _, h2⟩ := isMap_nat h
  rw [h2]; exact Nat.mul_pos h1 h1

/-- how far a list is all of a kind -/
theorem all_take_succ (p : Int → Bool) (L : List Int) (k : Nat) (hk : k < L.length) : (L.take (k + 1)).all p = ((L.take k).all p && p (L.getD k 0)) := by
  rw [take_succ_getD L k hk, List.all_append, List.all_cons, List.all_nil, Bool.and_true]
theorem any_take_succ (p : Int → Bool) (L : List Int) (k : Nat) (hk : k < L.length) : (L.take (k + 1)).any p = ((L.take k).any p || p (L.getD k 0)) := by
  rw [take_succ_getD L k hk, List.any_append, List.any_cons, List.any_nil, Bool.or_false]
theorem all_false_of (p : Int → Bool) (L : List Int) (k : Nat) (hk : k < L.length) (h : p (L.getD k 0) = false) : L.all p = false := by
  cases h1 : L.all p
  · rfl
  · simp only [List.all_eq_true] at h1
    have := h1 (L.getD k 0) (by rw [List.getD_eq_getElem?_getD, List.getElem?_eq_getElem hk]; exact List.getElem_mem _)
    rw [this] at h; cases h
theorem any_true_of (p : Int → Bool) (L : List Int) (k : Nat) (hk : k < L.length) (h : p (L.getD k 0) = true) : L.any p = true := by
  simp only [List.any_eq_true]
  exact ⟨_, by rw [List.getD_eq_getElem?_getD, List.getElem?_eq_getElem hk]; exact List.getElem_mem _, h⟩

end Go.Proofs.Ytjmfffgddmnkmac
