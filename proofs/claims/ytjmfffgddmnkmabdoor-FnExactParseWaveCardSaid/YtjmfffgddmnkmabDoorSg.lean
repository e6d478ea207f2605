/- The model's way to part a text at a byte. Condition: a text of at most a million bytes. -/
import Derived.Test.YtjmfffgddmnkmabDoorHeap
import Derived.Lib.Strings
import Derived.Laws.AppendOwn
import Derived.Laws.Strings3
import Derived.Below
import Derived.WalkKit
import Derived.BigCall
import Derived.BigGuard
import Derived.Outline
namespace Go.Proofs.YtjmfffgddmnkmabDoor
open Go Go.RowKit

/-- a text's parts between the bytes c -/
def sp (c : UInt8) : List UInt8 → List (List UInt8)
  | [] => [[]]
  | x :: r => if x = c then [] :: sp c r else match sp c r with
    | [] => [[x]]
    | h :: t => (x :: h) :: t
def attach (p : List UInt8) : List (List UInt8) → List (List UInt8)
  | [] => [p]
  | h :: t => (p ++ h) :: t
theorem sp_ne (c : UInt8) (l : List UInt8) : sp c l ≠ [] := by
  cases l with
  | nil => simp [sp]
  | cons x r =>
    unfold sp
    split
    · simp
    · split <;> simp
theorem attach_nil (l : List (List UInt8)) (h : l ≠ []) : attach [] l = l := by
  cases l with
  | nil => exact absurd rfl h
  | cons a t => rfl
theorem sp_hit (c : UInt8) (r p : List UInt8) : attach p (sp c (c :: r)) = p :: sp c r := by
  rw [show sp c (c :: r) = if c = c then [] :: sp c r else match sp c r with | [] => [[c]] | h :: t => (c :: h) :: t from rfl, if_pos rfl]
  show (p ++ []) :: _ = _
  rw [List.append_nil]
theorem sp_miss (c x : UInt8) (r p : List UInt8) (h : x ≠ c) : attach p (sp c (x :: r)) = attach (p ++ [x]) (sp c r) := by
  rw [show sp c (x :: r) = if x = c then [] :: sp c r else match sp c r with | [] => [[x]] | h :: t => (x :: h) :: t from rfl, if_neg h]
  cases hs : sp c r with
  | nil => exact absurd hs (sp_ne c r)
  | cons a t => simp [attach]

set_option maxRecDepth 100000 in
theorem infoStr : (Tryd.prog.info? 9).map (fun i => (i.zero, i.size, i.bytes)) = some (some (.string ByteArray.empty), 1, 16) := by kernel_rfl

set_option maxRecDepth 100000 in
set_option maxHeartbeats 2000000 in
theorem split_any (s : ByteArray) (hs : s.size ≤ 1048576) (c : UInt8) (w : World) :
    Calls Tryd.prog 48 #[.string s, .int .u8 (c.toNat : Int)] w fun e w' => ∃ (v : Value) (done : List ByteArray), e = .returned v ∧ w'.ownsRow w.heap.size 9 1 v done.length (done.map Value.string) ∧ done.map (·.data.toList) = sp c s.data.toList ∧ Below w.heap.size w w' := by
  obtain ⟨i0, hi, hz0, hz1, hz2⟩ := info_parts infoStr
  go_enter Tryd.func48, Tryd.ntmps48
  go_wp2
  go_loopw [5, 6, 7] (fun v va vi wr => ∃ (k a : Nat) (done : List ByteArray), k ≤ s.size ∧ a ≤ k ∧ va = .int .i64 (a : Int) ∧ vi = .int .i64 (k : Int) ∧ done.length ≤ k ∧ Hid (wr.ownsRow w.heap.size 9 1 v done.length (done.map Value.string)) ∧
    Hid (sp c s.data.toList = done.map (·.data.toList) ++ attach ((s.data.toList.drop a).take (k - a)) (sp c (s.data.toList.drop k))) ∧ Hid (Below w.heap.size w wr)) (fun _ _ vi _ => s.size - (intOf vi).toNat)
  case atStart =>
    refine ⟨0, 0, [], by omega, by omega, rfl, rfl, by simp, Lib.hid ?_, Lib.hid ?_, Lib.hid ?_⟩
    · exact ⟨rfl, .inr ⟨w.heap.size, 0, #[], rfl, Nat.le_refl _, h1_0 _ _, by simp, by simp, rfl, rfl⟩⟩
    · simp [attach_nil _ (sp_ne c _)]
    · exact (Below.refl _ _).alloc (Nat.le_refl _) _
  case round =>
    obtain ⟨k, a, done, hk, ha, rfl, rfl, hdl, HO, HS, HB⟩ := hrel
    by_cases hlt : k < s.size
    · have hdk : decide ((k : Int) < (s.size : Int)) = true := by simp; omega
      have hget : s.data.toList.drop k = s[k] :: s.data.toList.drop (k + 1) := by
        have h : k < s.data.toList.length := by rw [← Lib.size_eq]; exact hlt
        rw [List.drop_eq_getElem_cons h]
        congr 1
      by_cases hc : s[k] = c
      · have HN : Hid (sp c s.data.toList = (done ++ [s.extract a k]).map (·.data.toList) ++ attach ((s.data.toList.drop (k + 1)).take (k + 1 - (k + 1))) (sp c (s.data.toList.drop (k + 1)))) := Lib.hid (by
          rw [HS.out, hget, hc, sp_hit]
          rw [Nat.sub_self, List.take_zero, attach_nil _ (sp_ne c _), List.map_append, List.append_assoc]
          simp)
        have hcc : s[k].toNat = c.toNat := by rw [hc]
        have hdeq : decide (((s[k].toNat : Nat) : Int) = ((c.toNat : Nat) : Int)) = true := by rw [hcc]; simp
        clear hget HS
        go_wp2_with (at_builtin; refine wpList_append_own _ rfl (.tmp 20) (.tmp 25) 52 rfl w.heap.size 9 i0 (.string ByteArray.empty) 1 16 Tryd.underlying52 hi hz0 hz1 hz2 rfl (by decide) _ _ _ rfl (HO.out.alloc _) ⟨wr.heap.size, 0, none⟩ 1 1 [.string (s.extract a k)] rfl rfl ?c1A ?c2A ?c3A ?c4A ?c5A ?_)
        case c1A =>
          intro j u hj
          match j, hj with
          | 0, hj => simp at hj; subst hj; simp [Addr.add]
        case c2A => intro u hu; simp at hu; subst hu; rfl
        case c3A => unfold maxLen; omega
        case c4A => omega
        case c5A => have := HB.out.size; rw [size_al]; omega
        intro v' w1 hown' hgrow' _
        have HO2 : Hid (w1.ownsRow w.heap.size 9 1 v' (done ++ [s.extract a k]).length ((done ++ [s.extract a k]).map Value.string)) := Lib.hid (by
          rw [List.length_append, List.map_append]; exact hown')
        have HB2 : Hid (Below w.heap.size w w1) := Lib.hid ((HB.out.alloc HB.out.size _).grown hgrow' (by have := HB.out.size; rw [size_al]; omega) (fun j hj => by
          obtain ⟨_, h⟩ := HO.out
          rcases h with ⟨rfl, _⟩ | ⟨g, cap, cur, rfl, hg, _⟩
          · cases hj
          · injection hj with hj; rw [← hj]; exact hg))
        clear hown' hgrow'
        go_wp2
        go_roundw
        case rel => exact ⟨k + 1, k + 1, done ++ [s.extract a k], by omega, by omega, rfl, rfl, by rw [List.length_append]; simp; omega, HO2, HN, HB2⟩
        case measure => simp [intOf]; omega
      · have HN : Hid (sp c s.data.toList = done.map (·.data.toList) ++ attach ((s.data.toList.drop a).take (k + 1 - a)) (sp c (s.data.toList.drop (k + 1)))) := Lib.hid (by
          rw [HS.out, hget, sp_miss c _ _ _ hc]
          congr 2
          have h : k < s.data.toList.length := by rw [← Lib.size_eq]; exact hlt
          rw [show k + 1 - a = (k - a) + 1 by omega, List.take_succ_eq_append_getElem (by rw [List.length_drop]; omega)]
          congr 2
          rw [List.getElem_drop]
          have e : a + (k - a) = k := by omega
          simp only [e]
          rfl)
        have hcc : ¬ s[k].toNat = c.toNat := fun h => hc (UInt8.toNat_inj.1 h)
        have hdeq : decide (((s[k].toNat : Nat) : Int) = ((c.toNat : Nat) : Int)) = false := by simp; omega
        clear hget HS
        go_wp2
        exact ⟨⟨k + 1, a, done, by omega, by omega, rfl, rfl, by omega, HO, HN, HB⟩, by simp [intOf]; omega⟩
    · obtain rfl : k = s.size := by omega
      have HE : Hid ((done ++ [s.extract a s.size]).map (·.data.toList) = sp c s.data.toList) := Lib.hid (by
        have hd : s.data.toList.drop s.size = [] := List.drop_eq_nil_of_le (by rw [← Lib.size_eq]; exact Nat.le_refl _)
        rw [HS.out, List.map_append, hd]
        simp [sp, attach])
      clear HS
      go_wp2_with (at_builtin; refine wpList_append_own _ rfl (.tmp 29) (.tmp 33) 52 rfl w.heap.size 9 i0 (.string ByteArray.empty) 1 16 Tryd.underlying52 hi hz0 hz1 hz2 rfl (by decide) _ _ _ rfl (HO.out.alloc _) ⟨wr.heap.size, 0, none⟩ 1 1 [.string (s.extract a s.size)] rfl rfl ?c1B ?c2B ?c3B ?c4B ?c5B ?_)
      case c1B =>
        intro j u hj
        match j, hj with
        | 0, hj => simp at hj; subst hj; simp [Addr.add]
      case c2B => intro u hu; simp at hu; subst hu; rfl
      case c3B => unfold maxLen; omega
      case c4B => omega
      case c5B => have := HB.out.size; rw [size_al]; omega
      intro v' w1 hown' hgrow' _
      have HB2 : Below w.heap.size w w1 := (HB.out.alloc HB.out.size _).grown hgrow' (by have := HB.out.size; rw [size_al]; omega) (fun j hj => by
        obtain ⟨_, h⟩ := HO.out
        rcases h with ⟨rfl, _⟩ | ⟨g, cap, cur, rfl, hg, _⟩
        · cases hj
        · injection hj with hj; rw [← hj]; exact hg)
      go_wp2
      go_ret
      exact ⟨v', done ++ [s.extract a s.size], rfl, by rw [List.length_append, List.map_append]; exact hown', HE.out, HB2⟩
end Go.Proofs.YtjmfffgddmnkmabDoor
