/- Plain facts: the parts of a text between bytes, as the model takes them, against the library's cut and split. Condition: none. -/
import Derived.Test.YtjmfffgddmnkmabDoorSg
import Derived.Lib.Split
import Derived.Lib.CutLaws
namespace Go.Proofs.YtjmfffgddmnkmabDoor
open Go Go.RowKit

theorem sp_cons (c x : UInt8) (r : List UInt8) : sp c (x :: r) = if x = c then [] :: sp c r else match sp c r with | [] => [[x]] | h :: t => (x :: h) :: t := rfl
theorem idx_cons (c x : UInt8) (r : List UInt8) : Lib.index (x :: r) [c] = if x = c then 0 else if Lib.index r [c] = -1 then -1 else Lib.index r [c] + 1 := by
  have e : ([c] : List UInt8).isPrefixOf (x :: r) = decide (x = c) := by
    simp only [List.isPrefixOf, Bool.and_true]
    by_cases h : x = c
    · subst h; simp
    · rw [decide_eq_false h]; exact beq_false_of_ne (fun e => h e.symm)
  conv => lhs; unfold Lib.index
  rw [e]
  by_cases h : x = c
  · simp [h]
  · simp only [h, decide_false, if_false, Bool.false_eq_true]
    by_cases h2 : Lib.index r [c] = -1
    · simp [h2]
    · simp [h2]
theorem idx_sp (c : UInt8) : ∀ l : List UInt8, (Lib.index l [c] = -1 ∧ sp c l = [l] ∧ c ∉ l) ∨ ∃ n : Nat, Lib.index l [c] = n ∧ sp c l = l.take n :: sp c (l.drop (n + 1)) ∧ n < l.length ∧ c ∈ l
  | [] => .inl ⟨rfl, rfl, by simp⟩
  | x :: r => by
    rw [idx_cons, sp_cons]
    by_cases h : x = c
    · subst h
      right
      exact ⟨0, by simp, by simp, by simp, by simp⟩
    · rw [if_neg h, if_neg h]
      rcases idx_sp c r with ⟨e1, e2, e3⟩ | ⟨n, e1, e2, e3, e4⟩
      · left
        rw [e1, e2]
        exact ⟨by simp, rfl, by simp; exact ⟨fun e => h e.symm, e3⟩⟩
      · right
        refine ⟨n + 1, ?_, ?_, by simpa using e3, by simp [e4]⟩
        · rw [e1, if_neg (by omega)]; rfl
        · rw [e2]; rfl
theorem sp_drop_le (l : List UInt8) (n : Nat) (h : n < l.length) : (l.drop (n + 1)).length < l.length := by rw [List.length_drop]; omega
theorem split_sp (c : UInt8) : ∀ (f : Nat) (l : List UInt8), l.length < f → Lib.splitK [c] 0 (Lib.countFrom [c] f l) l = sp c l
  | 0, l, h => absurd h (by omega)
  | f + 1, l, h => by
    unfold Lib.countFrom
    rcases idx_sp c l with ⟨e1, e2, _⟩ | ⟨n, e1, e2, e3, _⟩
    · rw [if_pos (by simp [e1]), e2]; rfl
    · have hm : ¬ (Lib.index l [c] == -1) = true := fun e => by have := beq_iff_eq.1 e; omega
      have ht : (Lib.index l [c]).toNat = n := by omega
      rw [if_neg hm, Nat.add_comm 1]
      unfold Lib.splitK
      rw [if_neg hm, ht, e2]
      have := sp_drop_le l n e3
      rw [show n + ([c] : List UInt8).length = n + 1 from rfl, split_sp c f (l.drop (n + 1)) (by omega)]
      rfl
theorem splitK_sp (c : UInt8) (l : List UInt8) : Lib.splitK [c] 0 (Lib.count l [c]) l = sp c l := split_sp c _ l (Nat.lt_succ_self _)
theorem splitB_sp (c : UInt8) (s : ByteArray) : (Lib.splitB ⟨#[c]⟩ 0 (Lib.countB s ⟨#[c]⟩) s).map (·.data.toList) = sp c s.data.toList := by
  rw [Lib.splitB_data]; exact splitK_sp c _
theorem cut_sp (c : UInt8) (l : List UInt8) : ((Lib.cut l [c]).2.2 = false ∧ sp c l = [l]) ∨ ((Lib.cut l [c]).2.2 = true ∧ sp c l = (Lib.cut l [c]).1 :: sp c (Lib.cut l [c]).2.1) := by
  unfold Lib.cut
  rcases idx_sp c l with ⟨e1, e2, _⟩ | ⟨n, e1, e2, e3, _⟩
  · left
    rw [if_neg (by omega)]
    exact ⟨rfl, e2⟩
  · right
    have ht : (Lib.index l [c]).toNat = n := by omega
    rw [if_pos (by omega), ht]
    exact ⟨rfl, e2⟩
theorem sp_one (c : UInt8) (l : List UInt8) (h : c ∉ l) : sp c l = [l] := by
  rcases idx_sp c l with ⟨_, e2, _⟩ | ⟨_, _, _, _, e4⟩
  · exact e2
  · exact absurd e4 h
theorem sp_two (c : UInt8) (l : List UInt8) (h : c ∈ l) : 2 ≤ (sp c l).length := by
  rcases idx_sp c l with ⟨_, _, e3⟩ | ⟨n, _, e2, _, _⟩
  · exact absurd h e3
  · rw [e2]
    have := sp_ne c (l.drop (n + 1))
    cases hs : sp c (l.drop (n + 1)) with
    | nil => exact absurd hs this
    | cons a t => simp
/-- a byte that does not part the text lies in one of its parts -/
theorem sp_mem (c x : UInt8) (hx : x ≠ c) : ∀ l : List UInt8, x ∈ l → ∃ p ∈ sp c l, x ∈ p
  | [], h => absurd h (by simp)
  | y :: r, h => by
    rw [sp_cons]
    by_cases hy : y = c
    · rw [if_pos hy]
      have hr : x ∈ r := by
        rcases List.mem_cons.1 h with e | e
        · exact absurd (e.trans hy) hx
        · exact e
      obtain ⟨p, hp, hm⟩ := sp_mem c x hx r hr
      exact ⟨p, List.mem_cons_of_mem _ hp, hm⟩
    · rw [if_neg hy]
      rcases List.mem_cons.1 h with e | e
      · subst e
        cases hs : sp c r with
        | nil => exact ⟨[x], by simp, by simp⟩
        | cons a t => exact ⟨x :: a, by simp, by simp⟩
      · obtain ⟨p, hp, hm⟩ := sp_mem c x hx r e
        cases hs : sp c r with
        | nil => rw [hs] at hp; exact absurd hp (by simp)
        | cons a t =>
          rw [hs] at hp
          rcases List.mem_cons.1 hp with e | e
          · subst e; exact ⟨y :: p, by simp, List.mem_cons_of_mem _ hm⟩
          · exact ⟨p, List.mem_cons_of_mem _ e, hm⟩
end Go.Proofs.YtjmfffgddmnkmabDoor
