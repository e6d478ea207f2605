/- What the laws do to lists of whole numbers: copy one, compare two, mark one and ask for the marks. Condition: as many numbers as a law lets in. -/
import Derived.Test.YtajbnoofchcaoaaOw
import Derived.Lib.Hide
import Derived.Deep.Draws
namespace Go.Proofs.Ytajbnoofchcaoaa
open Go Go.RowKit

theorem Below.drewn {B : Nat} {w : World} (d : Nat) : Below B w (w.drewN d) := ⟨rfl, rfl, rfl, Nat.le_refl _, fun _ _ => rfl⟩

theorem Own.came {B : Nat} {v : Value} {L : List Int} {w : World} (h : Own B v L w) : ∃ a c, v = .slice a L.length c ∧ Came a L.length L w := by
  rcases h.kind with ⟨rfl, rfl⟩ | ⟨g, cap, rfl, hb, hg⟩
  · exact ⟨none, 0, rfl, rfl, fun h0 => absurd h0 (by simp)⟩
  · exact ⟨some ⟨g, 0, none⟩, cap, rfl, rfl, fun _ => ⟨g, 0, rfl, hg, fun i hi => by rw [Nat.zero_add]; exact h.cell i hi⟩⟩

/-- the first k of a list, then zeros -/
def pre (L : List Int) (n k : Nat) : List Int := L.take k ++ List.replicate (n - k) 0
theorem pre_len (L : List Int) (n k : Nat) (h : L.length = n) (hk : k ≤ n) : (pre L n k).length = n := by
  unfold pre; rw [List.length_append, List.length_take, List.length_replicate]; omega
theorem pre_set (L : List Int) (n k : Nat) (h : L.length = n) (hk : k < n) : (pre L n k).set k (L.getD k 0) = pre L n (k + 1) := by
  unfold pre
  obtain ⟨m, hm⟩ : ∃ m, n - k = m + 1 := ⟨n - k - 1, by omega⟩
  have hm2 : n - (k + 1) = m := by omega
  rw [hm, hm2, List.replicate_succ, List.set_append_right _ _ (by rw [List.length_take]; omega)]
  have h0 : k - (L.take k).length = 0 := by rw [List.length_take]; omega
  rw [h0, List.set_cons_zero, take_succ_getD L k (by omega)]
  simp
theorem pre_all (L : List Int) (n : Nat) (h : L.length = n) : pre L n n = L := by
  unfold pre
  rw [List.take_of_length_le (by omega), Nat.sub_self]
  simp

/-- the numbers from k on -/
def marks (n : Nat) (k : Int) : List Int := (List.range n).map (fun i => k + (i : Nat))
theorem marks_len (n : Nat) (k : Int) : (marks n k).length = n := by simp [marks]
theorem marks_get (n : Nat) (k : Int) (i : Nat) (h : i < n) : (marks n k).getD i 0 = k + i := by
  simp [marks, List.getD_eq_getElem?_getD, h]

/-- the first k numbers marked -/
def mpre (L : List Int) (k : Nat) : List Int := marks k 1 ++ L.drop k
theorem mpre_len (L : List Int) (k : Nat) (hk : k ≤ L.length) : (mpre L k).length = L.length := by
  unfold mpre; rw [List.length_append, marks_len, List.length_drop]; omega
theorem mpre_set (L : List Int) (k : Nat) (hk : k < L.length) : (mpre L k).set k (1 + (k : Int)) = mpre L (k + 1) := by
  unfold mpre
  rw [List.set_append_right _ _ (by rw [marks_len]; omega), marks_len, Nat.sub_self, List.drop_eq_getElem_cons hk, List.set_cons_zero]
  simp [marks, List.range_succ]
theorem mpre_all (L : List Int) : mpre L L.length = marks L.length 1 := by simp [mpre]

end Go.Proofs.Ytajbnoofchcaoaa
