/- What internal/strconv.ParseUint makes of a text at base 16 and 64 bits. Condition: a text that is not empty. -/
import Derived.Test.YtjmfffgddmnkmabDoorProg
import Derived.Lib.Strings
import Derived.Lib.Walk
import Derived.Lib.ConvBytes
import Derived.Lib.AtoiAllMem
import Derived.Lib.Hide
import Derived.Laws.Strings3
import Derived.Laws.Closers25
import Derived.Laws.Closers25b
import Derived.WalkKit
import Derived.BigCall
import Derived.BigGuard
namespace Go.Proofs.YtjmfffgddmnkmabDoor
open Go Go.RowKit

/-- the value of a digit to the base 16, capital ones too -/
def val16 (c : Nat) : Option Nat := if 48 ≤ c ∧ c ≤ 57 then some (c - 48) else if 97 ≤ c ∧ c ≤ 102 then some (c - 87) else if 65 ≤ c ∧ c ≤ 70 then some (c - 55) else none
def pu16 (acc : Nat) : List UInt8 → Lib.NumEnd Nat
  | [] => .ok acc
  | c :: r => match val16 c.toNat with
    | none => .syntax
    | some d => if 1152921504606846976 ≤ acc then .range else pu16 (acc * 16 + d) r
theorem val16_lt {c d : Nat} (h : val16 c = some d) : d < 16 := by
  unfold val16 at h
  split at h
  · injection h with h; omega
  · split at h
    · injection h with h; omega
    · split at h
      · injection h with h; omega
      · cases h
theorem or32 : ∀ c : Nat, c < 256 → bits .or .u8 (c : Int) 32 = ((c ||| 32 : Nat) : Int) := by decide +kernel
theorem or32_small : ∀ c : Nat, c < 256 → (97 ≤ (c ||| 32) ∧ (c ||| 32) ≤ 122 ↔ (97 ≤ c ∧ c ≤ 122 ∨ 65 ≤ c ∧ c ≤ 90)) ∧ (97 ≤ c ∧ c ≤ 122 → (c ||| 32) = c) ∧ (65 ≤ c ∧ c ≤ 90 → (c ||| 32) = c + 32) := by decide +kernel

set_option maxRecDepth 100000 in
theorem lower_any (c : Nat) (hc : c < 256) (w : World) : Calls Tryd.prog 102 #[.int .u8 (c : Int)] w fun e w' => e = .returned (.int .u8 ((c ||| 32 : Nat) : Int)) ∧ w' = w := by
  have h := or32 c hc
  go_enter Tryd.func102, Tryd.ntmps102
  go_wp2
  go_ret
  exact ⟨rfl, by trivial⟩

set_option maxHeartbeats 32000000 in
set_option maxRecDepth 100000 in
theorem parseUint16 (t : ByteArray) (hne : t.size ≠ 0) (hmax : t.size ≤ 9223372036854775806) (w : World) :
    Calls Tryd.prog 87 #[.string t, .int .i64 16, .int .i64 64] w fun e w' => e = .returned (Lib.uintTuple 118 (pu16 0 t.data.toList)) ∧ w' = Lib.bytesWorld w 5 t := by
  have hemp : t.toList.isEmpty = false := by
    rw [← decide_eq_emptyBytes]
    exact decide_eq_false (fun h => hne (by rw [h]; rfl))
  have hcv := Lib.run_convert_string_bytes (P := Tryd.prog) w 9 128 5 t (u := .string) Tryd.underlying9 Tryd.underlying128 Tryd.underlying5
  have hB : ∀ j, j < t.size → (Lib.bytesWorld w 5 t).cell? ⟨w.heap.size, j, none⟩ = some (.int .u8 (t.data.toList.getD j 0).toNat) := fun j hj => Lib.bytesWorld_cell w 5 t j hj
  obtain ⟨W1, hW1⟩ : ∃ W1, W1 = Lib.bytesWorld w 5 t := ⟨_, rfl⟩
  rw [← hW1] at hcv hB ⊢
  clear hW1
  obtain ⟨bs, hL⟩ : ∃ bs, bs = t.data.toList := ⟨_, rfl⟩
  have hLn : bs.length = t.size := by rw [hL, Lib.size_eq]
  rw [← hL] at hB ⊢
  clear hL
  have hmv : IntKind.u64.wrap (IntKind.u64.wrap 18446744073709551616 - 1) = 18446744073709551615 := by
    rw [IntKind.wrap_u64, IntKind.wrap_u64]
    decide
  go_enter Tryd.func87, Tryd.ntmps87
  go_wp2
  go_loop [12, 13, 101] (fun vu vn vi => ∃ (k acc : Nat) (a : Int), vu = .bool false ∧ vn = .int .u64 a ∧ vi = .int .i64 k ∧ k ≤ t.size ∧ Hid (a = (acc : Int) ∧ acc < 18446744073709551616 ∧ pu16 0 bs = pu16 acc (bs.drop k)))
    (fun _ _ vi => t.size - (intOf vi).toNat)
  case atStart => exact ⟨0, 0, 0, rfl, rfl, rfl, by omega, rfl, by omega, rfl⟩
  case round =>
    obtain ⟨k, acc, a, rfl, rfl, rfl, hk, hh⟩ := hrel
    obtain ⟨ha, hacc, hdec⟩ := hh.out
    clear hh
    have a0 : 0 ≤ a := by omega
    have a1 : a < 18446744073709551616 := by omega
    by_cases hkn : k < t.size
    · have hc := hB k hkn
      have hdrop : bs.drop k = bs[k]'(by omega) :: bs.drop (k + 1) := List.drop_eq_getElem_cons (by omega)
      have hget : bs.getD k 0 = bs[k]'(by omega) := by simp [List.getD, List.getElem?_eq_getElem (show k < bs.length by omega)]
      rw [hdrop] at hdec
      rw [hget] at hc
      generalize bs[k]'(by omega) = c8 at hc hdec
      have hc256 : c8.toNat < 256 := c8.toNat_lt
      clear hB hdrop hget
      obtain ⟨r, hr⟩ : ∃ r, r = bs.drop (k + 1) := ⟨_, rfl⟩
      rw [← hr] at hdec
      obtain ⟨c, hcc⟩ : ∃ c, c = c8.toNat := ⟨_, rfl⟩
      have hlow := or32_small c (by omega)
      obtain ⟨x, hx⟩ : ∃ x, x = c ||| 32 := ⟨_, rfl⟩
      have HLC : Hid (∀ w, Calls Tryd.prog 102 #[.int .u8 (c : Int)] w fun e w' => e = .returned (.int .u8 (x : Int)) ∧ w' = w) := Lib.hid (by rw [hx]; exact lower_any c (by omega))
      rw [← hx] at hlow
      clear hx
      cases hv : val16 c with
      | none =>
        have hF : pu16 acc (c8 :: r) = .syntax := by unfold pu16; rw [← hcc, hv]
        rw [hF] at hdec
        rw [← hcc] at hc hc256
        clear hacc hF ha hcc hr
        unfold val16 at hv
        have n1 : ¬ (48 ≤ c ∧ c ≤ 57) := fun h => by rw [if_pos h] at hv; cases hv
        rw [if_neg n1] at hv
        have n2 : ¬ (97 ≤ c ∧ c ≤ 102) := fun h => by rw [if_pos h] at hv; cases hv
        rw [if_neg n2] at hv
        have n3 : ¬ (65 ≤ c ∧ c ≤ 70) := fun h => by rw [if_pos h] at hv; cases hv
        clear hv
        have HL95 : Hid (∀ w, Calls Tryd.prog 102 #[.int .u8 95] w fun e w' => e = .returned (.int .u8 127) ∧ w' = w) := Lib.hid (lower_any 95 (by omega))
        go_wp2_with (go_at_call 102; first | (refine (HLC.out _).mono ?_; rintro e w' ⟨rfl, rfl⟩) | (refine (HL95.out _).mono ?_; rintro e w' ⟨rfl, rfl⟩))
        all_goals go_ret2
        all_goals first | exact ⟨rfl, rfl⟩ | first | exact ⟨rfl, rfl⟩ | exact ⟨by rw [hdec]; rfl, rfl⟩
      | some d =>
        have hd16 := val16_lt hv
        have key : (48 ≤ c ∧ c ≤ 57 ∧ d = c - 48) ∨ (97 ≤ c ∧ c ≤ 102 ∧ x = c ∧ d = c - 87) ∨ (65 ≤ c ∧ c ≤ 70 ∧ x = c + 32 ∧ d = c - 55) := by
          unfold val16 at hv
          by_cases n1 : 48 ≤ c ∧ c ≤ 57
          · rw [if_pos n1] at hv; injection hv with hv; exact .inl ⟨n1.1, n1.2, hv.symm⟩
          · rw [if_neg n1] at hv
            by_cases n2 : 97 ≤ c ∧ c ≤ 102
            · rw [if_pos n2] at hv; injection hv with hv; exact .inr (.inl ⟨n2.1, n2.2, hlow.2.1 ⟨n2.1, by omega⟩, hv.symm⟩)
            · rw [if_neg n2] at hv
              by_cases n3 : 65 ≤ c ∧ c ≤ 70
              · rw [if_pos n3] at hv; injection hv with hv; exact .inr (.inr ⟨n3.1, n3.2, hlow.2.2 ⟨n3.1, by omega⟩, hv.symm⟩)
              · rw [if_neg n3] at hv; cases hv
        rw [← hcc] at hc hc256
        by_cases hcut : 1152921504606846976 ≤ acc
        · have hF : pu16 acc (c8 :: r) = .range := by unfold pu16; rw [← hcc, hv]; simp [hcut]
          rw [hF] at hdec
          have icut : 1152921504606846976 ≤ a := by omega
          clear hcut hacc hF ha hcc hr hv hd16 hlow
          rcases key with ⟨k1, k2, k3⟩ | ⟨k1, k2, k3, k4⟩ | ⟨k1, k2, k3, k4⟩
          · clear k3
            go_wp2
            go_ret2
            first | exact ⟨rfl, rfl⟩ | exact ⟨by rw [hdec]; rfl, rfl⟩
          · subst k3
            clear k4
            go_wp2_with (go_at_call 102; refine (HLC.out _).mono ?_; rintro e w' ⟨rfl, rfl⟩)
            go_ret2
            first | exact ⟨rfl, rfl⟩ | exact ⟨by rw [hdec]; rfl, rfl⟩
          · clear k4
            go_wp2_with (go_at_call 102; refine (HLC.out _).mono ?_; rintro e w' ⟨rfl, rfl⟩)
            go_ret2
            first | exact ⟨rfl, rfl⟩ | exact ⟨by rw [hdec]; rfl, rfl⟩
        · have hF : pu16 acc (c8 :: r) = pu16 (acc * 16 + d) r := by
            unfold pu16; rw [← hcc, hv]; simp only []; rw [if_neg hcut]; cases r <;> rfl
          have HN : Hid ((a * 16 + (d : Int)) = ((acc * 16 + d : Nat) : Int) ∧ acc * 16 + d < 18446744073709551616 ∧ pu16 0 bs = pu16 (acc * 16 + d) (bs.drop (k + 1))) := Lib.hid ⟨by omega, by omega, by rw [← hr]; exact hdec.trans hF⟩
          have icut : a < 1152921504606846976 := by omega
          have iov : a * 16 + (d : Int) < 18446744073709551616 := by omega
          have iov2 : ¬ a * 16 + (d : Int) < a * 16 := by omega
          clear hcut hacc hF hdec ha hcc hr hv hlow
          rcases key with ⟨k1, k2, k3⟩ | ⟨k1, k2, k3, k4⟩ | ⟨k1, k2, k3, k4⟩
          · have kd : (d : Int) = (c : Int) - 48 := by omega
            have kd0 : 0 ≤ (d : Int) := by omega
            have kd1 : (d : Int) < 16 := by omega
            rw [kd] at iov iov2 kd0 kd1
            clear k3 hd16
            go_wp2
            refine ⟨⟨k + 1, acc * 16 + d, a * 16 + (d : Int), rfl, (by first | rfl | (congr 1; omega)), (by first | rfl | (congr 1; omega)), by omega, HN⟩, by simp [intOf]; omega⟩
          · subst k3
            have kd : (d : Int) = (x : Int) - 97 + 10 := by omega
            have kd0 : 0 ≤ (d : Int) := by omega
            have kd1 : (d : Int) < 16 := by omega
            rw [kd] at iov iov2 kd0 kd1
            clear k4 hd16
            go_wp2_with (go_at_call 102; refine (HLC.out _).mono ?_; rintro e w' ⟨rfl, rfl⟩)
            refine ⟨⟨k + 1, acc * 16 + d, a * 16 + (d : Int), rfl, (by first | rfl | (congr 1; omega)), (by first | rfl | (congr 1; omega)), by omega, HN⟩, by simp [intOf]; omega⟩
          · have kd : (d : Int) = (x : Int) - 97 + 10 := by omega
            have kd0 : 0 ≤ (d : Int) := by omega
            have kd1 : (d : Int) < 16 := by omega
            have kx : 97 ≤ x ∧ x ≤ 102 := by omega
            rw [kd] at iov iov2 kd0 kd1
            clear k4 k3 hd16
            go_wp2_with (go_at_call 102; refine (HLC.out _).mono ?_; rintro e w' ⟨rfl, rfl⟩)
            refine ⟨⟨k + 1, acc * 16 + d, a * 16 + (d : Int), rfl, (by first | rfl | (congr 1; omega)), (by first | rfl | (congr 1; omega)), by omega, HN⟩, by simp [intOf]; omega⟩
    · have hkk : k = t.size := by omega
      subst hkk
      have hF : pu16 acc (bs.drop t.size) = .ok acc := by rw [List.drop_eq_nil_of_le (by omega)]; rfl
      rw [hF] at hdec
      subst ha
      clear hacc hF a0 a1
      go_wp2
      go_ret2
      exact ⟨rfl, rfl⟩
end Go.Proofs.YtjmfffgddmnkmabDoor
