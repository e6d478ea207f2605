/- The laws' comparison of two floats, of two complex numbers, holds one that is no NaN equal to itself. Condition: no NaN. What is a complex number, and what lies within 64, in the program's ways to ask. Condition: none. The law's comparison of two waves holds a wave of finite cells equal to itself. Condition: 64 finite cells. Lists of whole numbers that lie in memory: what a call knows of a list that came in, and of one that it made itself. Condition: none. What the laws do to lists of whole numbers: copy one, compare two, mark one and ask for the marks. Condition: as many numbers as a law lets in. -/
import Derived.Test.YtclflnpbiiimiaaM3
import Derived.Laws.ComplexArith
import Derived.Test.YtclflnpbiiimiaaM4
import Derived.Deep.QuietTactic
import Derived.BigQuiet
import Derived.Test.YtclflnpbiiimiaaProg
import Derived.WalkKit
import Derived.Below
import Derived.Laws.OwnMore
import Derived.OwnWalk
import Derived.Deep.Onto
import Derived.Lib.Hide
import Derived.Deep.Draws
namespace Go.Proofs.Ytclflnpbiiimiaa
open Go Go.RowKit

/-- equal to itself -/
def own (x : Nat) : Bool := FloatKind.f64.format.order x x == some .eq
def zer (x : Nat) : Bool := FloatKind.f64.format.order x 0 == some .eq

theorem int_cmp_self (a : Int) : compare a a = .eq := by
  show compareOfLessAndEq a a = .eq
  unfold compareOfLessAndEq
  rw [if_neg (by omega), if_pos rfl]

theorem own_number (x : Nat) (s : Bool) (m : Nat) (p : Int) (h : Ieee.double.read x = .number s m p) : own x = true := by
  unfold own
  have : FloatKind.f64.format.order x x = some .eq := by
    show (Ieee.double.read x).order (Ieee.double.read x) = _
    rw [h]
    simp only [Ieee.Datum.order, int_cmp_self]
  rw [this]
  rfl

theorem zer_div (x : Nat) (h : zer x = true) : ∃ r, floatBits .quo .f64 4607182418800017408 x = some r := by
  have h1 : FloatKind.f64.format.order x 0 = some .eq := by simpa [zer] using h
  have h2 : (Ieee.double.read x).order (Ieee.double.read 0) = some .eq := h1
  have h0 : Ieee.double.read 0 = .number false 0 (-1074) := by decide
  have h3 : Ieee.double.read 4607182418800017408 = .number false 4503599627370496 (-52) := by decide
  rw [h0] at h2
  unfold floatBits
  show ∃ r, Ieee.double.div 4607182418800017408 x = some r
  unfold Ieee.Format.div
  rw [h3]
  cases hr : Ieee.double.read x with
  | number s m p =>
    simp only [Ieee.Datum.quotient]
    split
    · exact ⟨_, rfl⟩
    · exact ⟨_, rfl⟩
  | infinity s => exact ⟨_, rfl⟩
  | nan s t =>
    rw [hr] at h2
    simp [Ieee.Datum.order] at h2

end Go.Proofs.Ytclflnpbiiimiaa

namespace Go.Proofs.Ytclflnpbiiimiaa
open Go Go.RowKit

/-- 64 finite complex numbers -/
def Cells (zs : Array Value) : Prop := zs.size = 64 ∧ ∀ k, k < 64 → ∃ x y, fin x = true ∧ fin y = true ∧ zs[k]? = some (.complex .f32 x y)

/-- within -64 and 64 -/
def within (k : Int) : Bool := decide (-64 ≤ k) && decide (k ≤ 64)

theorem l01In_any (k : Int) (w : World) : Calls Try.prog 46 #[.int .i64 k, .int .i64 (-64), .int .i64 64] w fun e w' => e = .returned (.bool (within k)) ∧ w = w' := by
  by_cases h1 : -64 ≤ k
  · by_cases h2 : k ≤ 64
    · have e : within k = true := by simp [within, h1, h2]
      rw [e]
      go_enter Try.func46, Try.ntmps46
      go_wp2
      go_ret
      exact ⟨rfl, rfl⟩
    · have e : within k = false := by simp [within, h2]
      rw [e]
      go_enter Try.func46, Try.ntmps46
      go_wp2
      go_ret
      exact ⟨rfl, rfl⟩
  · have e : within k = false := by simp [within, h1]
    rw [e]
    go_enter Try.func46, Try.ntmps46
    go_wp2
    go_ret
    exact ⟨rfl, rfl⟩

end Go.Proofs.Ytclflnpbiiimiaa

namespace Go.Proofs.Ytclflnpbiiimiaa
open Go Go.RowKit

theorem conv_number (x : Nat) (h : fin x = true) : ∃ s m p, Ieee.double.read (conv x) = .number s m p := by
  obtain ⟨s, m, p, hr, hm, hp, hp'⟩ := fin_read x h
  unfold conv
  rw [hr]
  simp only [Ieee.Format.write]
  have key : ∀ r, r < 9218868437227405312 → ∃ s' m' p', Ieee.double.read (Ieee.double.word s r) = .number s' m' p' := by
    intro r hr'
    rw [read64 (Ieee.double.word s r), word_mod s r (by omega)]
    simp only [hr', if_true]
    split
    · exact ⟨_, _, _, rfl⟩
    · exact ⟨_, _, _, rfl⟩
  rcases Nat.eq_zero_or_pos m with h0 | h0
  · subst h0
    rw [conv_zero]
    exact key 0 (by omega)
  · obtain ⟨k, e, hn, hk, hk1, hk2, he1, he2, he, hl⟩ := near64 s m p h0 hm hp hp'
    rw [hn]
    exact key _ (by omega)

theorem own_conv (x : Nat) (h : fin x = true) : own (conv x) = true := by
  obtain ⟨s, m, p, hd⟩ := conv_number x h
  exact own_number _ s m p hd

theorem float_conv (x : Nat) (h : fin x = true) : floatToFloatBits .f32 x .f64 = some (conv x) := by
  obtain ⟨s, m, p, hr, _⟩ := fin_read x h
  have h' : FloatKind.f32.decode x = .number s m p := hr
  have hi := (conv_finite x h).1
  have hc : conv x = FloatKind.f64.encode (.number s m p) := by unfold conv; rw [hr]; rfl
  have hi' : (FloatKind.f64.decode (FloatKind.f64.encode (.number s m p))).isInfinity = false := by rw [← hc]; exact hi
  simp [floatToFloatBits, h', hi', hc]

end Go.Proofs.Ytclflnpbiiimiaa

namespace Go.Proofs.Ytclflnpbiiimiaa
open Go Go.RowKit

/-- the slice v lies in a block from B on and holds the whole numbers L -/
def Own (B : Nat) (v : Value) (L : List Int) (w : World) : Prop := w.ownsRow B 2 1 v L.length (L.map (Value.int .i64))

theorem Own.zero (B : Nat) (w : World) : Own B (.slice none 0 0) [] w := World.ownsRow_nil _ _ _ _
theorem Own.mono {B B' : Nat} {v : Value} {L : List Int} {w : World} (h : Own B v L w) (hb : B' ≤ B) : Own B' v L w := World.ownsRow.mono h hb
theorem Own.alloc {B : Nat} {v : Value} {L : List Int} {w : World} (h : Own B v L w) (o : Obj) : Own B v L (w.alloc o) := World.ownsRow.alloc h o
theorem Own.drew {B : Nat} {v : Value} {L : List Int} {w : World} (h : Own B v L w) : Own B v L w.drew := h

theorem Own.below {B C : Nat} {v : Value} {L : List Int} {w u : World} (h : Own B v L w) (k : Below C w u) (hC : w.heap.size ≤ C) : Own B v L u := by
  refine ⟨h.1, ?_⟩
  rcases h.2 with h2 | ⟨g, cap, cur, hv, hb, hg, r⟩
  · exact .inl h2
  · have hlt : g < w.heap.size := by
      rcases Nat.lt_or_ge g w.heap.size with h | h
      · exact h
      · rw [Array.getElem?_eq_none h] at hg; cases hg
    exact .inr ⟨g, cap, cur, hv, hb, by rw [k.block g (by omega)]; exact hg, r⟩

/-- a list that isn't empty lies in a block -/
theorem Own.form {B : Nat} {v : Value} {L : List Int} {w : World} (h : Own B v L w) (h0 : 0 < L.length) :
    ∃ g cap, v = .slice (some ⟨g, 0, none⟩) L.length cap ∧ B ≤ g ∧ g < w.heap.size := by
  rcases h.2 with ⟨_, h2⟩ | ⟨g, cap, cur, hv, hb, hg, r⟩
  · omega
  · have hlt : g < w.heap.size := by
      rcases Nat.lt_or_ge g w.heap.size with h | h
      · exact h
      · rw [Array.getElem?_eq_none h] at hg; cases hg
    exact ⟨g, cap, hv, hb, hlt⟩

/-- it is one with no address or one at the head of a block -/
theorem Own.kind {B : Nat} {v : Value} {L : List Int} {w : World} (h : Own B v L w) :
    (L = [] ∧ v = .slice none 0 0) ∨ ∃ g cap, v = .slice (some ⟨g, 0, none⟩) L.length cap ∧ B ≤ g ∧ g < w.heap.size := by
  rcases h.2 with ⟨hv, h2⟩ | ⟨g, cap, cur, hv, hb, hg, r⟩
  · exact .inl ⟨List.length_eq_zero_iff.1 h2, hv⟩
  · have hlt : g < w.heap.size := by
      rcases Nat.lt_or_ge g w.heap.size with h | h
      · exact h
      · rw [Array.getElem?_eq_none h] at hg; cases hg
    exact .inr ⟨g, cap, hv, hb, hlt⟩

theorem take_succ_getD (L : List Int) (k : Nat) (hk : k < L.length) : L.take (k + 1) = L.take k ++ [L.getD k 0] := by
  rw [List.take_add_one, List.getD_eq_getElem?_getD, List.getElem?_eq_getElem hk]; rfl
theorem map_getD (L : List Int) (i : Nat) (h : i < L.length) : (L.map (Value.int .i64))[i]? = some (.int .i64 (L.getD i 0)) := by
  rw [List.getElem?_map, List.getElem?_eq_getElem h, List.getD_eq_getElem?_getD, List.getElem?_eq_getElem h]; rfl

theorem Own.cell {B g cap : Nat} {L : List Int} {w : World} (h : Own B (.slice (some ⟨g, 0, none⟩) L.length cap) L w) (i : Nat) (hi : i < L.length) :
    w.cell? ⟨g, i, none⟩ = some (.int .i64 (L.getD i 0)) := by
  rw [World.ownsRow.cellAt h i (by omega)]
  exact map_getD L i hi

theorem Own.free {B g cap : Nat} {L : List Int} {w : World} (h : Own B (.slice (some ⟨g, 0, none⟩) L.length cap) L w) (i : Nat) :
    w.frozen? ⟨g, i, none⟩ = false := World.ownsRow.frozenAt h _

theorem Own.stored {B g cap : Nat} {L : List Int} {w : World} (h : Own B (.slice (some ⟨g, 0, none⟩) L.length cap) L w) (i : Nat) (x : Int) :
    Own B (.slice (some ⟨g, 0, none⟩) L.length cap) (L.set i x) (w.setCell ⟨g, i, none⟩ (.int .i64 x)) := by
  have h1 := (World.ownsRow.stored h i (.int .i64 x)).1
  unfold Own
  rw [List.length_set, List.map_set]
  exact h1

theorem Own.cap {B g n cap : Nat} {L : List Int} {w : World} (h : Own B (.slice (some ⟨g, 0, none⟩) n cap) L w) : n = L.length ∧ L.length ≤ cap ∧ cap ≤ maxLen := by
  rcases h.2 with ⟨hv, _⟩ | ⟨g', cap', cur, hv, hb, hg, hn, hm, _⟩
  · cases hv
  · cases hv
    exact ⟨rfl, hn, hm⟩

/-- what is known of a list that came in -/
def Came (a : Option Addr) (n : Nat) (L : List Int) (w : World) : Prop :=
  L.length = n ∧ (0 < n → ∃ b off, a = some ⟨b, off, none⟩ ∧ b < w.heap.size ∧ ∀ i, i < n → w.cell? ⟨b, off + i, none⟩ = some (.int .i64 (L.getD i 0)))

theorem Came.below {C : Nat} {a : Option Addr} {n : Nat} {L : List Int} {w u : World} (h : Came a n L w) (k : Below C w u) (hC : w.heap.size ≤ C) : Came a n L u := by
  refine ⟨h.1, fun hn => ?_⟩
  obtain ⟨b, off, ha, hb, hc⟩ := h.2 hn
  exact ⟨b, off, ha, by have := k.size; omega, fun i hi => by rw [k.cell (p := ⟨b, off + i, none⟩) (show b < C by omega)]; exact hc i hi⟩

theorem info64 : (Try.prog.info? 2).map (fun i => (i.zero, i.size, i.bytes)) = some (some (.int .i64 0), 1, 8) := by kernel_rfl

end Go.Proofs.Ytclflnpbiiimiaa

namespace Go.Proofs.Ytclflnpbiiimiaa
open Go Go.RowKit

theorem Below.drewn {B : Nat} {w : World} (d : Nat) : Below B w (w.drewN d) := ⟨rfl, rfl, rfl, Nat.le_refl _, fun _ _ => rfl⟩

theorem Own.came {B : Nat} {v : Value} {L : List Int} {w : World} (h : Own B v L w) : ∃ a c, v = .slice a L.length c ∧ Came a L.length L w := by
  rcases h.kind with ⟨rfl, rfl⟩ | ⟨g, cap, rfl, hb, hg⟩
  · exact ⟨none, 0, rfl, rfl, fun h0 => absurd h0 (by simp)⟩
  · exact ⟨some ⟨g, 0, none⟩, cap, rfl, rfl, fun _ => ⟨g, 0, rfl, hg, fun i hi => by rw [Nat.zero_add]; exact h.cell i hi⟩⟩

/-- the first k of a list, then zeros -/
def pre (L : List Int) (n k : Nat) : List Int := L.take k ++ List.replicate (n - k) 0
theorem pre_len (L : List Int) (n k : Nat) (h : L.length = n) (hk : k ≤ n) : (pre L n k).length = n := by
  unfold pre; rw [List.length_append, List.length_take, List.length_replicate]; omega
theorem pre_set (L : List Int) (n k : Nat) (h : L.length = n) (hk : k < n) : (pre L n k).set k (L.getD k 0) = pre L n (k + 1) := by
  unfold pre
  obtain ⟨m, hm⟩ : ∃ m, n - k = m + 1 := ⟨n - k - 1, by omega⟩
  have hm2 : n - (k + 1) = m := by omega
  rw [hm, hm2, List.replicate_succ, List.set_append_right _ _ (by rw [List.length_take]; omega)]
  have h0 : k - (L.take k).length = 0 := by rw [List.length_take]; omega
  rw [h0, List.set_cons_zero, take_succ_getD L k (by omega)]
  simp
theorem pre_all (L : List Int) (n : Nat) (h : L.length = n) : pre L n n = L := by
  unfold pre
  rw [List.take_of_length_le (by omega), Nat.sub_self]
  simp

/-- the numbers from k on -/
def marks (n : Nat) (k : Int) : List Int := (List.range n).map (fun i => k + (i : Nat))
theorem marks_len (n : Nat) (k : Int) : (marks n k).length = n := by simp [marks]
theorem marks_get (n : Nat) (k : Int) (i : Nat) (h : i < n) : (marks n k).getD i 0 = k + i := by
  simp [marks, List.getD_eq_getElem?_getD, h]

/-- the first k numbers marked -/
def mpre (L : List Int) (k : Nat) : List Int := marks k 1 ++ L.drop k
theorem mpre_len (L : List Int) (k : Nat) (hk : k ≤ L.length) : (mpre L k).length = L.length := by
  unfold mpre; rw [List.length_append, marks_len, List.length_drop]; omega
theorem mpre_set (L : List Int) (k : Nat) (hk : k < L.length) : (mpre L k).set k (1 + (k : Int)) = mpre L (k + 1) := by
  unfold mpre
  rw [List.set_append_right _ _ (by rw [marks_len]; omega), marks_len, Nat.sub_self, List.drop_eq_getElem_cons hk, List.set_cons_zero]
  simp [marks, List.range_succ]
theorem mpre_all (L : List Int) : mpre L L.length = marks L.length 1 := by simp [mpre]

end Go.Proofs.Ytclflnpbiiimiaa
