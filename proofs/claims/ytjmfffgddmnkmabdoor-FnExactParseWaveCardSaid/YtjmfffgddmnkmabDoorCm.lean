/- The model's reading of a text of a complex number, and of a number of one digit. Condition: none. -/
import Derived.Test.YtjmfffgddmnkmabDoorMo
namespace Go.Proofs.YtjmfffgddmnkmabDoor
open Go Go.RowKit

theorem sp_len (c : UInt8) : ∀ l : List UInt8, ∀ p ∈ sp c l, p.length ≤ l.length
  | [], p, h => by
    simp [sp] at h
    subst h
    exact Nat.le_refl _
  | x :: r, p, h => by
    rw [sp_cons] at h
    have ih := sp_len c r
    by_cases hx : x = c
    · rw [if_pos hx] at h
      rcases List.mem_cons.1 h with e | e
      · subst e; simp
      · exact Nat.le_trans (ih p e) (by simp)
    · rw [if_neg hx] at h
      cases hs : sp c r with
      | nil =>
        rw [hs] at h
        simp at h
        subst h
        simp
      | cons a t =>
        rw [hs] at h ih
        rcases List.mem_cons.1 h with e | e
        · subst e
          have := ih a (by simp)
          simp
          omega
        · exact Nat.le_trans (ih p (List.mem_cons_of_mem _ e)) (by simp)
/-- a row of texts that is owned: where it lies and what its cells hold -/
theorem own_form {w : World} {base : Nat} {v : Value} {done : List ByteArray} (h : w.ownsRow base 9 1 v done.length (done.map Value.string)) (hn : 0 < done.length) :
    ∃ g cap, v = .slice (some ⟨g, 0, none⟩) done.length cap ∧ base ≤ g ∧ ∀ j u, done[j]? = some u → w.cell? ⟨g, j, none⟩ = some (.string u) := by
  rcases h.2 with ⟨rfl, h0⟩ | ⟨g, cap, cur, rfl, hb, hg, _⟩
  · omega
  · refine ⟨g, cap, rfl, hb, fun j u hu => ?_⟩
    have := h.cells (g := g) rfl j (.string u) (by rw [List.getElem?_map, hu]; rfl)
    rwa [show ((⟨g, 0, none⟩ : Addr).add j) = ⟨g, j, none⟩ by unfold Addr.add; split <;> simp_all] at this

theorem seenPair_form (o : Option Int) : ∃ f, seenPair o = .tuple #[.float .f32 f, .bool o.isSome] ∧ ∀ v, o = some v → f = placeBits v := by
  cases o with
  | none => exact ⟨0, rfl, fun v h => by cases h⟩
  | some x => exact ⟨placeBits x, rfl, fun v h => by injection h with h; rw [h]⟩
theorem cellOf_two (a b : List UInt8) (l : List UInt8) (h : sp 44 l = [a, b]) : (cellOf l).isSome = ((seenOf a).isSome && (seenOf b).isSome) ∧ ∀ p, cellOf l = some p → seenOf a = some p.1 ∧ seenOf b = some p.2 := by
  unfold cellOf
  rw [h]
  cases h1 : seenOf a with
  | none => exact ⟨by simp [h1], fun p hp => by simp [h1] at hp⟩
  | some x =>
    cases h2 : seenOf b with
    | none => exact ⟨by simp [h1, h2], fun p hp => by simp [h1, h2] at hp⟩
    | some y => exact ⟨by simp [h1, h2], fun p hp => by simp [h1, h2] at hp; subst hp; exact ⟨rfl, rfl⟩⟩

set_option maxRecDepth 100000 in
set_option maxHeartbeats 1000000 in
theorem complex_any (s : ByteArray) (hs : s.size ≤ 1048576) (w : World) : Calls Tryd.prog 51 #[.string s] w fun e w' =>
    (∃ x y, e = .returned (.tuple #[.complex .f32 x y, .bool (cellOf s.data.toList).isSome]) ∧ ∀ p, cellOf s.data.toList = some p → x = placeBits p.1 ∧ y = placeBits p.2) ∧ Below w.heap.size w w' := by
  have HS : Hid (∀ w, Calls Tryd.prog 48 #[.string s, .int .u8 44] w fun e w' => ∃ (v : Value) (done : List ByteArray), e = .returned v ∧ w'.ownsRow w.heap.size 9 1 v done.length (done.map Value.string) ∧ done.map (·.data.toList) = sp 44 s.data.toList ∧ Below w.heap.size w w') := Lib.hid fun w => split_any s hs 44 w
  go_enter Tryd.func51, Tryd.ntmps51
  go_wp2_with fail
  refine (HS.out w).mono ?_
  rintro e w1 ⟨v, done, rfl, ho, hd, hb⟩
  have hpos : 0 < done.length := by
    have := congrArg List.length hd
    rw [List.length_map] at this
    have h2 := sp_ne 44 s.data.toList
    rcases Nat.eq_zero_or_pos done.length with h | h
    · rw [h] at this
      exact absurd (List.eq_nil_of_length_eq_zero this.symm) h2
    · exact h
  obtain ⟨g, cap, rfl, hgb, hcell⟩ := own_form ho hpos
  have HB := Lib.hid hb
  clear ho hb HS
  by_cases h2 : done.length = 2
  · obtain ⟨a, b, rfl⟩ : ∃ a b, done = [a, b] := by
      match done, h2 with
      | [a, b], _ => exact ⟨a, b, rfl⟩
    have hsp : sp 44 s.data.toList = [a.data.toList, b.data.toList] := hd.symm
    have hla : a.size ≤ 1048576 := by
      have := sp_len 44 s.data.toList a.data.toList (by rw [hsp]; simp)
      rw [← Lib.size_eq, ← Lib.size_eq] at this
      omega
    have hlb : b.size ≤ 1048576 := by
      have := sp_len 44 s.data.toList b.data.toList (by rw [hsp]; simp)
      rw [← Lib.size_eq, ← Lib.size_eq] at this
      omega
    have c0 := hcell 0 a rfl
    have c1 := hcell 1 b rfl
    have HA := Lib.hid (seen_any a hla)
    have HBB := Lib.hid (seen_any b hlb)
    obtain ⟨hc1, hc2⟩ := cellOf_two _ _ _ hsp
    have HC2 := Lib.hid hc2
    obtain ⟨fx, ex, px⟩ := seenPair_form (seenOf a.data.toList)
    obtain ⟨fy, ey, py⟩ := seenPair_form (seenOf b.data.toList)
    rw [ex] at HA
    rw [ey] at HBB
    have PX := Lib.hid px
    have PY := Lib.hid py
    have HI := Lib.hid hc1
    clear hcell hsp hd h2 hpos ex ey px py hc1 hc2
    generalize (seenOf a.data.toList).isSome = b1 at *
    generalize (seenOf b.data.toList).isSome = b2 at *
    go_wp2_with fail
    refine (HA.out _).mono ?_
    rintro e w' ⟨rfl, hw'⟩
    obtain rfl := hw'.symm
    go_wp2_with fail
    refine (HBB.out _).mono ?_
    rintro e w' ⟨rfl, hw'⟩
    obtain rfl := hw'.symm
    cases b1
    · go_wp2
      go_ret2
      exact ⟨⟨fx, fy, by rw [HI.out]; rfl, fun p hp => ⟨PX.out _ (HC2.out p hp).1, PY.out _ (HC2.out p hp).2⟩⟩, HB.out⟩
    · cases b2
      · go_wp2
        go_ret2
        exact ⟨⟨fx, fy, by rw [HI.out]; rfl, fun p hp => ⟨PX.out _ (HC2.out p hp).1, PY.out _ (HC2.out p hp).2⟩⟩, HB.out⟩
      · go_wp2
        go_ret2
        exact ⟨⟨fx, fy, by rw [HI.out]; rfl, fun p hp => ⟨PX.out _ (HC2.out p hp).1, PY.out _ (HC2.out p hp).2⟩⟩, HB.out⟩
  · have hne : (((done.length : Nat) : Int) != 2) = true := by simp; omega
    have hno : cellOf s.data.toList = none := by
      unfold cellOf
      have h3 : (sp 44 s.data.toList).length ≠ 2 := by rw [← hd, List.length_map]; exact h2
      split
      · rename_i x y h4
        rw [h4] at h3
        exact absurd rfl h3
      · rfl
    have HN := Lib.hid hno
    clear hno hcell hd h2 hpos
    go_wp2
    go_ret2
    exact ⟨⟨0, 0, by rw [HN.out]; rfl, fun p hp => by rw [HN.out] at hp; cases hp⟩, HB.out⟩
/-- a text of one byte as a number -/
def oneDigit (c : Nat) : Int := if 48 ≤ c ∧ c ≤ 57 then (c : Int) - 48 else -1
set_option maxRecDepth 100000 in
set_option maxHeartbeats 1000000 in
theorem number_one (s : ByteArray) (c : UInt8) (hl : s.data.toList = [c]) (w : World) : Calls Tryd.prog 50 #[.string s] w fun e w' => e = .returned (.int .i64 (oneDigit c.toNat)) ∧ w' = w := by
  have h1 : s.size = 1 := by rw [Lib.size_eq, hl]; rfl
  have hs0 : s[0] = c := by
    have h : s.data.toList[0]? = some c := by rw [hl]; rfl
    rw [List.getElem?_eq_getElem (by rw [hl]; simp)] at h
    injection h
  have hc8 : c.toNat < 256 := c.toNat_lt
  have hz : ((s.size : Int) == 0) = false := by rw [h1]; rfl
  have hz9 : decide ((s.size : Int) > 9) = false := by rw [h1]; rfl
  have hz1 : decide ((s.size : Int) > 1) = false := by rw [h1]; rfl
  have hl0 : decide ((0 : Int) < (s.size : Int)) = true := by rw [h1]; rfl
  have hl1 : decide ((1 : Int) < (s.size : Int)) = false := by rw [h1]; rfl
  have hp : 0 < s.size := by omega
  have hv : Hid (oneDigit c.toNat = if 48 ≤ s[0].toNat ∧ s[0].toNat ≤ 57 then (s[0].toNat : Int) - 48 else -1) := Lib.hid (by rw [hs0]; rfl)
  have hc8 : s[0].toNat < 256 := s[0].toNat_lt
  generalize oneDigit c.toNat = v at *
  clear hs0 hl
  go_enter Tryd.func50, Tryd.ntmps50
  go_wp2
  go_loop [3, 4] (fun vn vi => (vn = .int .i64 0 ∧ vi = .int .i64 0) ∨ (vn = .int .i64 ((s[0].toNat : Int) - 48) ∧ vi = .int .i64 1 ∧ Hid (v = (s[0].toNat : Int) - 48))) (fun _ vi => 1 - (intOf vi).toNat)
  case atStart => exact .inl ⟨rfl, rfl⟩
  case round =>
    rcases hrel with ⟨rfl, rfl⟩ | ⟨rfl, rfl, hvv⟩
    · by_cases h0 : 48 ≤ s[0].toNat
      · have hg1 : decide (((s[0].toNat : Nat) : Int) < 48) = false := decide_eq_false (by omega)
        by_cases h9 : s[0].toNat ≤ 57
        · have hg2 : decide (((s[0].toNat : Nat) : Int) > 57) = false := decide_eq_false (by omega)
          have hvv : Hid (v = (s[0].toNat : Int) - 48) := Lib.hid (by rw [hv.out, if_pos ⟨h0, h9⟩])
          have hw1 : IntKind.u8.wrap (((s[0].toNat : Nat) : Int) - 48) = ((s[0].toNat : Nat) : Int) - 48 := IntWalk.u8_in _ (by omega)
          have hw3 : IntKind.i64.wrap (((s[0].toNat : Nat) : Int) - 48) = ((s[0].toNat : Nat) : Int) - 48 := IntWalk.i64_in _ (by omega)
          go_wp2
          exact ⟨.inr ⟨by first | rfl | (congr 1; omega), by go_num, hvv⟩, by simp [intOf]⟩
        · have hg2 : decide (((s[0].toNat : Nat) : Int) > 57) = true := decide_eq_true (by omega)
          have hvv : Hid (v = -1) := Lib.hid (by rw [hv.out, if_neg (fun h => h9 h.2)])
          go_wp2
          go_ret
          exact ⟨by rw [hvv.out]; rfl, rfl⟩
      · have hg1 : decide (((s[0].toNat : Nat) : Int) < 48) = true := decide_eq_true (by omega)
        have hvv : Hid (v = -1) := Lib.hid (by rw [hv.out, if_neg (fun h => h0 h.1)])
        go_wp2
        go_ret
        exact ⟨by rw [hvv.out]; rfl, rfl⟩
    · go_wp2
      go_ret
      exact ⟨by rw [hvv.out]; rfl, rfl⟩
end Go.Proofs.YtjmfffgddmnkmabDoor
