/- What strconv.FormatInt makes of a number at base 16. Condition: a number of 64 bits, and the library's table of trailing zeros. -/
import Derived.Test.YtjmfffgddmnkmabDoorPi
import Derived.Test.YtjmfffgddmnkmabDoorHeap
import Derived.Laws.IdiomStrings
import Derived.Laws.Bits64b
import Derived.Lib.ItoaMem
import Derived.Laws.Slices
import Derived.Deep.CutBlock
import Derived.Deep.DeepCutAuto
import Derived.Deep.QuietTactic
import Derived.BigQuiet
namespace Go.Proofs.YtjmfffgddmnkmabDoor
open Go Go.RowKit

/-- a digit to the base 16 -/
def hexByte (d : Nat) : UInt8 := UInt8.ofNat (if d < 10 then 48 + d else 87 + d)
/-- the digits of a number ahead of others -/
def hexTo : Nat → Nat → List UInt8 → List UInt8
  | 0, u, L => hexByte u :: L
  | f + 1, u, L => if u < 16 then hexByte u :: L else hexTo f (u / 16) (hexByte (u % 16) :: L)
def hexText (v : Int) : List UInt8 := if v < 0 then 45 :: hexTo 15 v.natAbs [] else hexTo 15 v.natAbs []

def z65 : Array Value := Array.replicate 65 (.int .u8 0)
set_option maxRecDepth 100000 in
theorem info65 : (Tryd.prog.info? 155).map (fun i => (i.zero, i.size)) = some (some (.agg z65), 65) := by kernel_rfl
/-- zeros, then bytes -/
def rowOf (i : Nat) (L : List UInt8) : Array Value := (List.replicate i (Value.int .u8 0) ++ L.map fun b => Value.int .u8 (b.toNat : Int)).toArray
theorem rowOf_zero : rowOf 65 [] = z65 := by unfold rowOf z65; rw [List.map_nil, List.append_nil, List.toArray_replicate]
theorem rowOf_get (i : Nat) (L : List UInt8) (j : Nat) (b : UInt8) (h : L[j]? = some b) : (rowOf i L)[i + j]? = some (.int .u8 (b.toNat : Int)) := by
  simp only [rowOf, List.getElem?_toArray]
  rw [List.getElem?_append_right (by simp)]
  simp [h]
theorem rowOf_old (i : Nat) (L : List UInt8) : (rowOf (i + 1) L)[i]? = some (.int .u8 0) := by
  simp only [rowOf, List.getElem?_toArray]
  rw [List.getElem?_append_left (by simp)]
  simp
theorem rowOf_set (i : Nat) (L : List UInt8) (b : UInt8) : (rowOf (i + 1) L).setIfInBounds i (.int .u8 (b.toNat : Int)) = rowOf i (b :: L) := by
  apply Array.ext_getElem?
  intro j
  rw [Array.getElem?_setIfInBounds]
  by_cases h : i = j
  · subst h
    have := rowOf_get i (b :: L) 0 b rfl
    rw [Nat.add_zero] at this
    rw [if_pos rfl, if_pos (by simp [rowOf]; omega), this]
  · rw [if_neg h]
    simp only [rowOf, List.getElem?_toArray]
    by_cases hlt : j < i
    · rw [List.getElem?_append_left (by simp; omega), List.getElem?_append_left (by simp; omega)]
      simp [hlt, show j < i + 1 by omega]
    · rw [List.getElem?_append_right (by simp; omega), List.getElem?_append_right (by simp; omega)]
      obtain ⟨k, rfl⟩ : ∃ k, j = i + 1 + k := ⟨j - (i + 1), by omega⟩
      simp [show i + 1 + k - i = k + 1 by omega]
theorem and15 (u : Nat) : u &&& 15 = u % 16 := Nat.and_two_pow_sub_one_eq_mod u 4

def digs : ByteArray := ⟨#[48, 49, 50, 51, 52, 53, 54, 55, 56, 57, 97, 98, 99, 100, 101, 102, 103, 104, 105, 106, 107, 108, 109, 110, 111, 112, 113, 114, 115, 116, 117, 118, 119, 120, 121, 122]⟩
theorem dig_at : ∀ d : Fin 16, digs.data[d.val]? = some (hexByte d.val) := by decide +kernel
theorem dig_of (d : Nat) (h : d < 16) (h2 : d < digs.size) : digs[d]'h2 = hexByte d := by
  have := dig_at ⟨d, h⟩
  have e : digs.data[d]? = some (digs[d]'h2) := Array.getElem?_eq_getElem h2
  rw [e] at this
  injection this
theorem low4 (u : Nat) (hu : u < 18446744073709551616) : bits .and .u64 (u : Int) 15 = ((u % 16 : Nat) : Int) := by
  have h := bits_and_u64_nat u 15 hu (by decide)
  rw [and15] at h
  exact h

set_option maxRecDepth 100000 in
theorem tz16 (w : World) (ht : w.cell? ⟨9, 15, none⟩ = some (.int .u8 4)) : Calls Tryd.prog 111 #[.int .u64 16] w fun e w' => e = .returned (.int .i64 4) ∧ Below w.heap.size w w' := by
  have he : IntKind.u64.wrap (bits BinOp.and IntKind.u64 16 (IntKind.u64.wrap (-16)) * 285870213051353865) / 288230376151711744 = 15 := by decide +kernel
  go_enter Tryd.func111, Tryd.ntmps111
  go_wp2
  go_ret
  exact ⟨rfl, Below.refl _ _⟩

set_option maxRecDepth 100000 in
set_option maxHeartbeats 4000000 in
theorem formatBits16 (u0 : Nat) (hu : u0 < 18446744073709551616) (neg : Bool) (i0 : Int) (hi0 : i0 = (if neg then IntKind.u64.wrap (-(u0 : Int)) else (u0 : Int))) (w : World) (ht : w.cell? ⟨9, 15, none⟩ = some (.int .u8 4)) :
    Calls Tryd.prog 95 #[.slice none 0 0, .int .u64 i0, .int .i64 16, .bool neg, .bool false] w fun e w' => e = .returned (.tuple #[.slice none 0 0, .string ⟨(if neg then 45 :: hexTo 15 u0 [] else hexTo 15 u0 []).toArray⟩]) ∧ Below w.heap.size w w' := by
  have hz := (zero_of_info info65).1
  have hn0 : IntKind.u64.wrap (-i0) = (u0 : Int) ∨ neg = false := by
    cases neg
    · exact .inr rfl
    · refine .inl ?_
      rw [hi0, if_pos rfl, IntKind.wrap_u64, IntKind.wrap_u64]
      omega
  go_enter Tryd.func95, Tryd.ntmps95
  go_upto_if 30 with fail
  go_cut [1] (fun v wx => v = .int .u64 (u0 : Int) ∧ wx = w.alloc (.cells z65 155))
  case first =>
    cases neg
    · rw [if_neg (by simp)] at hi0
      subst hi0
      go_wp2
      go_meet
      exact ⟨rfl, rfl⟩
    · have hn : IntKind.u64.wrap (-IntKind.u64.wrap (-(u0 : Int))) = (u0 : Int) := by rw [IntKind.wrap_u64, IntKind.wrap_u64]; omega
      rw [if_pos rfl] at hi0
      subst hi0
      go_wp2
      go_meet
      first | exact ⟨rfl, rfl⟩ | exact ⟨by rw [hn], rfl⟩
  case rest =>
  obtain ⟨rfl, rfl⟩ := hcut
  clear hn0 hi0
  have ht1 : (w.alloc (.cells z65 155)).cell? ⟨9, 15, none⟩ = some (.int .u8 4) := by rw [World.cell?_alloc_old _ _ _ (Nat.ne_of_lt (World.block_lt_of_cell? _ _ ht))]; exact ht
  have G0 : Hid ((w.alloc (.cells z65 155)).heap[w.heap.size]? = some (.cells (rowOf 65 []) 155 (0, 0))) := Lib.hid (by rw [rowOf_zero]; exact h1_0 _ _)
  have B0 : Hid (Below w.heap.size w (w.alloc (.cells z65 155))) := Lib.hid ((Below.refl _ _).alloc (Nat.le_refl _) _)
  clear ht
  generalize w.alloc (.cells z65 155) = v at *
  go_wp2_with (go_at_call 110; go_in)
  refine (tz16 _ ht1).mono ?_
  rintro e v1 ⟨rfl, b1⟩
  have G1 : Hid (v1.heap[w.heap.size]? = some (.cells (rowOf 65 []) 155 (0, 0))) := Lib.hid (by rw [b1.block _ (Array.getElem?_eq_some_iff.1 G0.out).1]; exact G0.out)
  have B1 : Hid (Below w.heap.size w v1) := Lib.hid (B0.out.trans (b1.mono B0.out.size))
  clear b1 G0 B0 ht1
  have hpow : u0 < 16 ^ (15 + 1) := Nat.lt_of_lt_of_le hu (by decide)
  go_wp2
  go_loopw [1, 13] (fun vu vi wr => ∃ (f i u : Nat) (L : List UInt8), vu = .int .u64 (u : Int) ∧ vi = .int .i64 (i : Int) ∧ Hid (i + L.length = 65 ∧ u < 16 ^ (f + 1) ∧ L.length + f = 15 ∧ hexTo f u L = hexTo 15 u0 [] ∧ u < 18446744073709551616) ∧ Hid (wr.heap[w.heap.size]? = some (.cells (rowOf i L) 155 (0, 0))) ∧ Hid (Below w.heap.size w wr)) (fun vu _ _ => (intOf vu).toNat)
  case atStart => exact ⟨15, 65, u0, [], rfl, rfl, Lib.hid ⟨rfl, hpow, rfl, rfl, hu⟩, G1, B1⟩
  case round =>
    obtain ⟨f, i, u, L, rfl, rfl, HH, G, B⟩ := hrel
    obtain ⟨hi, hf, hL, hx, hu64⟩ := HH.out
    clear HH G1 B1
    by_cases hge : 16 ≤ u
    · obtain ⟨g, rfl⟩ : ∃ g, f = g + 1 := by
        cases f with
        | zero => simp at hf; omega
        | succ g => exact ⟨g, rfl⟩
      obtain ⟨j, rfl⟩ : ∃ j, i = j + 1 := ⟨i - 1, by omega⟩
      have hx2 : hexTo g (u / 16) (hexByte (u % 16) :: L) = hexTo 15 u0 [] := by rw [← hx]; show _ = if u < 16 then _ else _; rw [if_neg (by omega)]
      have HN : Hid (j + (hexByte (u % 16) :: L).length = 65 ∧ u / 16 < 16 ^ (g + 1) ∧ (hexByte (u % 16) :: L).length + g = 15 ∧ hexTo g (u / 16) (hexByte (u % 16) :: L) = hexTo 15 u0 [] ∧ u / 16 < 18446744073709551616) :=
        Lib.hid ⟨by simp only [List.length_cons]; omega, by rw [Nat.pow_succ] at hf; exact Nat.div_lt_of_lt_mul (by rw [Nat.mul_comm]; exact hf), by simp only [List.length_cons]; omega, hx2, by omega⟩
      have hold : wr.cell? ⟨w.heap.size, j, none⟩ = some (.int .u8 0) := by rw [cell_of_row _ _ _ _ _ _ G.out]; exact rowOf_old j L
      have hfree : wr.frozen? ⟨w.heap.size, j, none⟩ = false := frozen_of_row _ _ _ _ _ G.out
      have hj : j ≤ 64 := by omega
      have hsub : wrap64 (((j + 1 : Nat) : Int) - 1) = (j : Int) := by unfold wrap64; omega
      have hb := low4 u hu64
      have hd : u % 16 < 16 := Nat.mod_lt _ (by decide)
      have hdiv : (u : Int) / 16 = ((u / 16 : Nat) : Int) := by omega
      have hmeas : u / 16 < u := by omega
      generalize u % 16 = d at *
      generalize u / 16 = q at *
      have hdig := dig_of d hd (Nat.lt_of_lt_of_le hd (by decide))
      unfold digs at hdig
      clear hi hf hL hx hx2
      go_wp2
      exact ⟨⟨g, j, q, hexByte d :: L, rfl, rfl, HN, Lib.hid (by rw [← rowOf_set]; exact heap_setCell_same _ _ _ _ _ _ G.out), Lib.hid (B.out.setCell (Nat.le_refl _) _)⟩, by simp [intOf]; omega⟩
    · have hend : hexTo 15 u0 [] = hexByte u :: L := by
        rw [← hx]
        cases f with
        | zero => rfl
        | succ g => show (if u < 16 then _ else _) = _; rw [if_pos (by omega)]
      obtain ⟨j, rfl⟩ : ∃ j, i = j + 1 := ⟨i - 1, by omega⟩
      have hlen : (hexByte u :: L).length = 65 - j := by simp only [List.length_cons]; omega
      have hold : wr.cell? ⟨w.heap.size, j, none⟩ = some (.int .u8 0) := by rw [cell_of_row _ _ _ _ _ _ G.out]; exact rowOf_old j L
      have hfree : wr.frozen? ⟨w.heap.size, j, none⟩ = false := frozen_of_row _ _ _ _ _ G.out
      have hj : j ≤ 64 := by omega
      have hj1 : 1 ≤ j := by omega
      have hsub : wrap64 (((j + 1 : Nat) : Int) - 1) = (j : Int) := by unfold wrap64; omega
      have hd : u < 16 := by omega
      have hdig := dig_of u hd (Nat.lt_of_lt_of_le hd (by decide))
      unfold digs at hdig
      clear hi hf hL hx hge
      go_upto_if 89 with fail
      have G2 : Hid ((wr.setCell ⟨w.heap.size, j, none⟩ (.int .u8 ((hexByte u).toNat : Int))).heap[w.heap.size]? = some (.cells (rowOf j (hexByte u :: L)) 155 (0, 0))) := Lib.hid (by rw [← rowOf_set]; exact heap_setCell_same _ _ _ _ _ _ G.out)
      have B2 : Hid (Below w.heap.size w (wr.setCell ⟨w.heap.size, j, none⟩ (.int .u8 ((hexByte u).toNat : Int)))) := Lib.hid (B.out.setCell (Nat.le_refl _) _)
      generalize wr.setCell ⟨w.heap.size, j, none⟩ (.int .u8 ((hexByte u).toNat : Int)) = wy at *
      generalize hexByte u :: L = M at *
      clear hold hfree G B hdig hd
      have hal : Tryd.prog.arrayLen 155 = 65 := by kernel_rfl
      have HSL : Hid (∀ (k : Nat), k ≤ 64 → ∀ W, (Instr.sliceAt 155 (.pointer (some ⟨w.heap.size, 0, none⟩)) (some (.int .i64 (k : Int))) none none).run Tryd.prog W = .ok (.slice (some ⟨w.heap.size, k, none⟩) (65 - k) (65 - k)) W) := Lib.hid fun k hk W => by
        rw [run_sliceAt_array_l W 155 ⟨w.heap.size, 0, none⟩ (by kernel_rfl) .i64 (k : Int) (by omega) (by rw [hal]; omega), hal]
        go_simp
        omega
      have HCV : Hid (∀ (k : Nat) (N : List UInt8) (wx : World), N.length = 65 - k → wx.heap[w.heap.size]? = some (.cells (rowOf k N) 155 (0, 0)) → (convert 128 9 (.slice (some ⟨w.heap.size, k, none⟩) (65 - k) (65 - k))).run Tryd.prog wx = .ok (.string ⟨N.toArray⟩) wx) := Lib.hid fun k N wx hN hG => by
        have h := run_convert_bytes_back (P := Tryd.prog) wx 128 9 5 ⟨w.heap.size, k, none⟩ (65 - k) N Tryd.underlying128 Tryd.underlying5 Tryd.underlying9 (fun i hi => by
          rw [Lib.add_plain, cell_of_row _ _ _ _ _ _ hG, rowOf_get k N i _ (List.getElem?_eq_getElem hi)])
        rw [hN] at h
        exact h
      clear hal
      cases neg
      · have hcv := HCV.out j M wy hlen G2.out
        have hsl := HSL.out j hj
        go_wp2
        go_ret2
        refine ⟨?_, B2.out⟩
        try rw [hend]
        rfl
      · obtain ⟨k, rfl⟩ : ∃ k, j = k + 1 := ⟨j - 1, by omega⟩
        have hold : wy.cell? ⟨w.heap.size, k, none⟩ = some (.int .u8 0) := by rw [cell_of_row _ _ _ _ _ _ G2.out]; exact rowOf_old k M
        have hfree : wy.frozen? ⟨w.heap.size, k, none⟩ = false := frozen_of_row _ _ _ _ _ G2.out
        have hk64 : k ≤ 64 := by omega
        have hsub2 : wrap64 (((k + 1 : Nat) : Int) - 1) = (k : Int) := by unfold wrap64; omega
        have hsl := HSL.out k hk64
        go_upto_if 94 with fail
        have G3 : Hid ((wy.setCell ⟨w.heap.size, k, none⟩ (.int .u8 45)).heap[w.heap.size]? = some (.cells (rowOf k (45 :: M)) 155 (0, 0))) := Lib.hid (by rw [← rowOf_set]; exact heap_setCell_same _ _ _ _ _ _ G2.out)
        have B3 : Hid (Below w.heap.size w (wy.setCell ⟨w.heap.size, k, none⟩ (.int .u8 45))) := Lib.hid (B2.out.setCell (Nat.le_refl _) _)
        generalize wy.setCell ⟨w.heap.size, k, none⟩ (.int .u8 45) = wz at *
        have hcv := HCV.out k (45 :: M) wz (by simp only [List.length_cons]; omega) G3.out
        clear hold hfree
        go_wp2
        go_ret2
        refine ⟨?_, B3.out⟩
        try rw [hend]
        rfl

set_option maxRecDepth 100000 in
set_option maxHeartbeats 1000000 in
theorem formatInt16 (k : Int) (h0 : -9223372036854775808 ≤ k) (h1 : k ≤ 9223372036854775807) (w : World) (ht : w.cell? ⟨9, 15, none⟩ = some (.int .u8 4)) :
    Calls Tryd.prog 54 #[.int .i64 k, .int .i64 16] w fun e w' => e = .returned (.string ⟨(hexText k).toArray⟩) ∧ Below w.heap.size w w' := by
  have hF := formatBits16 k.natAbs (by omega) (decide (k < 0)) (IntKind.u64.wrap k) (by
    by_cases hk : k < 0
    · simp only [hk, decide_true, if_true]; congr 1; omega
    · simp only [hk, decide_false, Bool.false_eq_true, if_false]; rw [IntKind.wrap_u64]; omega) w ht
  have hT : (if decide (k < 0) = true then 45 :: hexTo 15 k.natAbs [] else hexTo 15 k.natAbs []) = hexText k := by
    unfold hexText
    by_cases hk : k < 0 <;> simp [hk]
  rw [hT] at hF
  have HF := Lib.hid hF
  clear hF hT
  go_enter Tryd.func54, Tryd.ntmps54
  go_wp2_with (first | (go_at_call 73; go_in) | (go_at_call 95; refine HF.out.mono ?_; rintro e w' ⟨rfl, b⟩))
  go_ret
  exact ⟨rfl, b⟩
end Go.Proofs.YtjmfffgddmnkmabDoor
