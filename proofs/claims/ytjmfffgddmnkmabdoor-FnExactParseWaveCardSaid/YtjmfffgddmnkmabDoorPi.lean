/- What internal/strconv.ParseInt makes of a text at base 16 and 64 bits. Condition: a text of any length that a machine holds. -/
import Derived.Test.YtjmfffgddmnkmabDoorPu
import Derived.Lib.IfaceNeq
import Derived.Lib.ItoaWalk
import Derived.Lib.AtoiErrMem
import Derived.Below
import Derived.Laws.Strings3
namespace Go.Proofs.YtjmfffgddmnkmabDoor
open Go Go.RowKit

def pu16e (l : List UInt8) : Lib.NumEnd Nat := if l = [] then .syntax else pu16 0 l
def sgn64 (neg : Bool) : Lib.NumEnd Nat → Lib.NumEnd Int
  | .ok u => if neg then (if 9223372036854775808 < u then .range else .ok (-(u : Int))) else (if 9223372036854775808 ≤ u then .range else .ok (u : Int))
  | .syntax => .syntax
  | .range => .range
def pi16 : List UInt8 → Lib.NumEnd Int
  | [] => .syntax
  | c :: r => if c = 43 then sgn64 false (pu16e r) else if c = 45 then sgn64 true (pu16e r) else sgn64 false (pu16e (c :: r))
theorem pi16_cons (c : UInt8) (r : List UInt8) : pi16 (c :: r) = if c = 43 then sgn64 false (pu16e r) else if c = 45 then sgn64 true (pu16e r) else sgn64 false (pu16e (c :: r)) := rfl
def IntEnd (x : Lib.NumEnd Int) (e : Ending) : Prop := match x with
  | .ok v => e = .returned (.tuple #[.int .i64 v, .nilIface])
  | .syntax => ∃ v, e = .returned (.tuple #[.int .i64 v, .iface 118 (.int .i64 2)])
  | .range => ∃ v, e = .returned (.tuple #[.int .i64 v, .iface 118 (.int .i64 1)])

theorem pu16_lt : ∀ (l : List UInt8) (acc u : Nat), acc < 18446744073709551616 → pu16 acc l = .ok u → u < 18446744073709551616
  | [], acc, u, h, e => by unfold pu16 at e; injection e with e; omega
  | c :: r, acc, u, h, e => by
    unfold pu16 at e
    cases hv : val16 c.toNat with
    | none => rw [hv] at e; cases e
    | some d =>
      rw [hv] at e
      simp only [] at e
      by_cases hc : 1152921504606846976 ≤ acc
      · rw [if_pos hc] at e; cases e
      · rw [if_neg hc] at e
        exact pu16_lt r _ u (by have := val16_lt hv; omega) e
theorem pu16e_lt (l : List UInt8) (u : Nat) (e : pu16e l = .ok u) : u < 18446744073709551616 := by
  unfold pu16e at e
  split at e
  · cases e
  · exact pu16_lt l 0 u (by omega) e

set_option maxRecDepth 100000 in
set_option maxHeartbeats 1000000 in
theorem parseUintE (t : ByteArray) (hmax : t.size ≤ 9223372036854775806) (w : World) :
    Calls Tryd.prog 87 #[.string t, .int .i64 16, .int .i64 64] w fun e w' => e = .returned (Lib.uintTuple 118 (pu16e t.data.toList)) ∧ Below w.heap.size w w' := by
  by_cases h0 : t.size = 0
  · have ht : t = ⟨#[]⟩ := by
      obtain ⟨⟨l⟩⟩ := t
      cases l with
      | nil => rfl
      | cons _ _ => simp [ByteArray.size] at h0
    subst ht
    go_enter Tryd.func87, Tryd.ntmps87
    go_wp2
    go_ret2
    exact ⟨rfl, Below.refl _ _⟩
  · have hne : t.data.toList ≠ [] := fun h => h0 (by rw [Lib.size_eq, h]; rfl)
    refine (parseUint16 t h0 hmax w).mono fun e w' ⟨he, hw⟩ => ⟨?_, by rw [hw]; exact Lib.bytesWorld_below _ _ _⟩
    rw [he, pu16e, if_neg hne]

set_option maxHeartbeats 32000000 in
set_option maxRecDepth 100000 in
theorem parseInt16 (s : ByteArray) (hmax : s.size ≤ 9223372036854775806) (w : World) :
    Calls Tryd.prog 71 #[.string s, .int .i64 16, .int .i64 64] w fun e w' => IntEnd (pi16 s.data.toList) e ∧ Below w.heap.size w w' := by
  by_cases hne : s.size = 0
  · have ht : s = ⟨#[]⟩ := by
      obtain ⟨⟨l⟩⟩ := s
      cases l with
      | nil => rfl
      | cons _ _ => simp [ByteArray.size] at hne
    subst ht
    go_enter Tryd.func71, Tryd.ntmps71
    go_wp2
    go_ret2
    exact ⟨⟨_, rfl⟩, Below.refl _ _⟩
  have hemp : s.toList.isEmpty = false := by
    rw [← decide_eq_emptyBytes]
    exact decide_eq_false (fun h => hne (by rw [h]; rfl))
  have hpos : 0 < s.size := by omega
  obtain ⟨c0, r, hL⟩ : ∃ c0 r, s.data.toList = c0 :: r := by
    cases h : s.data.toList with
    | nil => exact absurd (by rw [Lib.size_eq, h]; rfl) hne
    | cons c0 r => exact ⟨c0, r, rfl⟩
  have hsz : s.size = r.length + 1 := by rw [Lib.size_eq, hL]; rfl
  have hs0 : s[0]'hpos = c0 := by have := Lib.getD_at s 0 hpos; rw [hL] at this; exact this
  have hq2 : ∀ W, (binOp .neq 81 (.iface 118 (.int .i64 2)) (.iface 118 (.int .i64 1))).run Tryd.prog W = .ok (.bool true) W := fun W => by kernel_rfl
  have hq1 : ∀ W, (binOp .neq 81 (.iface 118 (.int .i64 1)) (.iface 118 (.int .i64 1))).run Tryd.prog W = .ok (.bool false) W := fun W => by kernel_rfl
  have hmin : wrap64 (-wrap64 9223372036854775808) = -9223372036854775808 := by
    unfold wrap64
    omega
  rw [hL]
  by_cases h43 : c0 = 43
  · subst h43
    have hsl : ∀ W, (Instr.slice 9 (.string s) (some (.int .i64 1)) none none).run Tryd.prog W = .ok (.string (s.extract 1 s.size)) W := fun W => by
      rw [run_slice_string_from_if W 9 s .i64 _ Tryd.underlying9, if_pos ⟨by omega, by omega⟩]
      rfl
    have htl : (s.extract 1 s.size).data.toList = r := by
      rw [Lib.extract_data, hL, List.drop_succ_cons, List.drop_zero, List.take_of_length_le (by omega)]
    have hts : (s.extract 1 s.size).size = s.size - 1 := by rw [Lib.size_eq, htl]; omega
    generalize s.extract 1 s.size = t at hsl htl hts
    have hU := parseUintE t (by omega) w
    rw [htl] at hU
    have hp : pi16 (43 :: r) = sgn64 false (pu16e r) := by rw [pi16_cons]; rw [if_pos rfl]
    rw [hp]
    clear hL hp
    rcases hE : pu16e r with u | _ | _
    rotate_left
    · rw [hE] at hU
      have hU : Calls Tryd.prog 87 #[.string t, .int .i64 16, .int .i64 64] w fun e w' => e = .returned (.tuple #[.int .u64 0, .iface 118 (.int .i64 2)]) ∧ Below w.heap.size w w' := hU
      clear hE
      go_enter Tryd.func71, Tryd.ntmps71
      go_wp2_with (go_at_call 87; refine hU.mono ?_; rintro e w1 ⟨rfl, hw1⟩)
      go_wp2
      go_ret2
      exact ⟨⟨_, rfl⟩, hw1⟩
    · rw [hE] at hU
      have hU : Calls Tryd.prog 87 #[.string t, .int .i64 16, .int .i64 64] w fun e w' => e = .returned (.tuple #[.int .u64 18446744073709551615, .iface 118 (.int .i64 1)]) ∧ Below w.heap.size w w' := hU
      clear hE
      go_enter Tryd.func71, Tryd.ntmps71
      go_wp2_with (go_at_call 87; refine hU.mono ?_; rintro e w1 ⟨rfl, hw1⟩)
      go_wp2
      go_ret2
      exact ⟨⟨_, rfl⟩, hw1⟩
    · have hu64 := pu16e_lt _ u hE
      rw [hE] at hU
      obtain ⟨a, ha⟩ : ∃ a : Int, a = (u : Int) := ⟨_, rfl⟩
      have hU : Calls Tryd.prog 87 #[.string t, .int .i64 16, .int .i64 64] w fun e w' => e = .returned (.tuple #[.int .u64 a, .nilIface]) ∧ Below w.heap.size w w' := by rw [ha]; exact hU
      have a0 : 0 ≤ a := by omega
      have a1 : a ≤ 18446744073709551615 := by omega
      by_cases hout : 9223372036854775808 ≤ u
      · have hs : sgn64 false (.ok u) = .range := by unfold sgn64; simp [hout]
        rw [hs]
        have iout : 9223372036854775808 ≤ a := by omega
        clear hs hout hu64 ha hE
        go_enter Tryd.func71, Tryd.ntmps71
        go_wp2_with (go_at_call 87; refine hU.mono ?_; rintro e w1 ⟨rfl, hw1⟩)
        go_wp2
        go_ret2
        exact ⟨⟨_, rfl⟩, hw1⟩
      · have hs : sgn64 false (.ok u) = .ok a := by unfold sgn64; rw [ha]; simp [hout]
        rw [hs]
        have iin : a < 9223372036854775808 := by omega
        clear hs hout hu64 ha hE
        go_enter Tryd.func71, Tryd.ntmps71
        go_wp2_with (go_at_call 87; refine hU.mono ?_; rintro e w1 ⟨rfl, hw1⟩)
        go_wp2
        go_ret2
        refine ⟨?_, hw1⟩
        rfl
  by_cases h45 : c0 = 45
  · subst h45
    have hsl : ∀ W, (Instr.slice 9 (.string s) (some (.int .i64 1)) none none).run Tryd.prog W = .ok (.string (s.extract 1 s.size)) W := fun W => by
      rw [run_slice_string_from_if W 9 s .i64 _ Tryd.underlying9, if_pos ⟨by omega, by omega⟩]
      rfl
    have htl : (s.extract 1 s.size).data.toList = r := by
      rw [Lib.extract_data, hL, List.drop_succ_cons, List.drop_zero, List.take_of_length_le (by omega)]
    have hts : (s.extract 1 s.size).size = s.size - 1 := by rw [Lib.size_eq, htl]; omega
    generalize s.extract 1 s.size = t at hsl htl hts
    have hU := parseUintE t (by omega) w
    rw [htl] at hU
    have hp : pi16 (45 :: r) = sgn64 true (pu16e r) := by rw [pi16_cons]; rw [if_neg (by decide), if_pos rfl]
    rw [hp]
    clear hL hp
    rcases hE : pu16e r with u | _ | _
    rotate_left
    · rw [hE] at hU
      have hU : Calls Tryd.prog 87 #[.string t, .int .i64 16, .int .i64 64] w fun e w' => e = .returned (.tuple #[.int .u64 0, .iface 118 (.int .i64 2)]) ∧ Below w.heap.size w w' := hU
      clear hE
      go_enter Tryd.func71, Tryd.ntmps71
      go_wp2_with (go_at_call 87; refine hU.mono ?_; rintro e w1 ⟨rfl, hw1⟩)
      go_wp2
      go_ret2
      exact ⟨⟨_, rfl⟩, hw1⟩
    · rw [hE] at hU
      have hU : Calls Tryd.prog 87 #[.string t, .int .i64 16, .int .i64 64] w fun e w' => e = .returned (.tuple #[.int .u64 18446744073709551615, .iface 118 (.int .i64 1)]) ∧ Below w.heap.size w w' := hU
      clear hE
      go_enter Tryd.func71, Tryd.ntmps71
      go_wp2_with (go_at_call 87; refine hU.mono ?_; rintro e w1 ⟨rfl, hw1⟩)
      go_wp2
      go_ret2
      exact ⟨⟨_, rfl⟩, hw1⟩
    · have hu64 := pu16e_lt _ u hE
      rw [hE] at hU
      obtain ⟨a, ha⟩ : ∃ a : Int, a = (u : Int) := ⟨_, rfl⟩
      have hU : Calls Tryd.prog 87 #[.string t, .int .i64 16, .int .i64 64] w fun e w' => e = .returned (.tuple #[.int .u64 a, .nilIface]) ∧ Below w.heap.size w w' := by rw [ha]; exact hU
      have a0 : 0 ≤ a := by omega
      have a1 : a ≤ 18446744073709551615 := by omega
      by_cases hout : 9223372036854775808 < u
      · have hs : sgn64 true (.ok u) = .range := by unfold sgn64; simp [hout]
        rw [hs]
        have iout : 9223372036854775808 < a := by omega
        clear hs hout hu64 ha hE
        go_enter Tryd.func71, Tryd.ntmps71
        go_wp2_with (go_at_call 87; refine hU.mono ?_; rintro e w1 ⟨rfl, hw1⟩)
        go_wp2
        go_ret2
        exact ⟨⟨_, rfl⟩, hw1⟩
      · have hs : sgn64 true (.ok u) = .ok (-a) := by unfold sgn64; rw [ha]; simp [hout]
        rw [hs]
        have iin : a ≤ 9223372036854775808 := by omega
        have hwn : wrap64 (-wrap64 a) = -a := by
          unfold wrap64
          omega
        clear hs hout hu64 ha hE
        go_enter Tryd.func71, Tryd.ntmps71
        go_wp2_with (go_at_call 87; refine hU.mono ?_; rintro e w1 ⟨rfl, hw1⟩)
        go_wp2
        go_ret2
        refine ⟨?_, hw1⟩
        first | rfl | (show Ending.returned _ = _; simp only [hwn]; rfl)
  · have n43 : c0.toNat ≠ 43 := fun h => h43 (UInt8.toNat_inj.1 h)
    have n45 : c0.toNat ≠ 45 := fun h => h45 (UInt8.toNat_inj.1 h)
    have i43 : ¬ (c0.toNat : Int) = 43 := by omega
    have i45 : ¬ (c0.toNat : Int) = 45 := by omega
    have hU := parseUintE s hmax w
    rw [hL] at hU
    have hp : pi16 (c0 :: r) = sgn64 false (pu16e (c0 :: r)) := by rw [pi16_cons, if_neg h43, if_neg h45]
    rw [hp]
    clear hL hp
    rcases hE : pu16e (c0 :: r) with u | _ | _
    rotate_left
    · rw [hE] at hU
      have hU : Calls Tryd.prog 87 #[.string s, .int .i64 16, .int .i64 64] w fun e w' => e = .returned (.tuple #[.int .u64 0, .iface 118 (.int .i64 2)]) ∧ Below w.heap.size w w' := hU
      clear hE
      go_enter Tryd.func71, Tryd.ntmps71
      go_wp2_with (go_at_call 87; refine hU.mono ?_; rintro e w1 ⟨rfl, hw1⟩)
      go_wp2
      go_ret2
      exact ⟨⟨_, rfl⟩, hw1⟩
    · rw [hE] at hU
      have hU : Calls Tryd.prog 87 #[.string s, .int .i64 16, .int .i64 64] w fun e w' => e = .returned (.tuple #[.int .u64 18446744073709551615, .iface 118 (.int .i64 1)]) ∧ Below w.heap.size w w' := hU
      clear hE
      go_enter Tryd.func71, Tryd.ntmps71
      go_wp2_with (go_at_call 87; refine hU.mono ?_; rintro e w1 ⟨rfl, hw1⟩)
      go_wp2
      go_ret2
      exact ⟨⟨_, rfl⟩, hw1⟩
    · have hu64 := pu16e_lt _ u hE
      rw [hE] at hU
      obtain ⟨a, ha⟩ : ∃ a : Int, a = (u : Int) := ⟨_, rfl⟩
      have hU : Calls Tryd.prog 87 #[.string s, .int .i64 16, .int .i64 64] w fun e w' => e = .returned (.tuple #[.int .u64 a, .nilIface]) ∧ Below w.heap.size w w' := by rw [ha]; exact hU
      have a0 : 0 ≤ a := by omega
      have a1 : a ≤ 18446744073709551615 := by omega
      by_cases hout : 9223372036854775808 ≤ u
      · have hs : sgn64 false (.ok u) = .range := by unfold sgn64; simp [hout]
        rw [hs]
        have iout : 9223372036854775808 ≤ a := by omega
        clear hs hout hu64 ha hE
        go_enter Tryd.func71, Tryd.ntmps71
        go_wp2_with (go_at_call 87; refine hU.mono ?_; rintro e w1 ⟨rfl, hw1⟩)
        go_wp2
        go_ret2
        exact ⟨⟨_, rfl⟩, hw1⟩
      · have hs : sgn64 false (.ok u) = .ok a := by unfold sgn64; rw [ha]; simp [hout]
        rw [hs]
        have iin : a < 9223372036854775808 := by omega
        clear hs hout hu64 ha hE
        go_enter Tryd.func71, Tryd.ntmps71
        go_wp2_with (go_at_call 87; refine hU.mono ?_; rintro e w1 ⟨rfl, hw1⟩)
        go_wp2
        go_ret2
        refine ⟨?_, hw1⟩
        rfl
end Go.Proofs.YtjmfffgddmnkmabDoor
