/- The draws of floats and of complex numbers leave some such number and turn the source alone. Condition: a source. -/
import Derived.Test.YtjmfffgddmnkmabSou
import Derived.Deep.CutBlock
import Derived.Deep.DeepCutAuto
namespace Go.Proofs.Ytjmfffgddmnkmab
open Go Go.RowKit

/-! Arithmetic on floats leaves some float and memory as it was. Condition: none. -/

/-- alike but for what was asked of the tape -/
structure Like (w w' : World) : Prop where
  heap : w'.heap = w.heap
  os : w'.os = w.os
  tape : w'.tape = w.tape
  output : w'.output = w.output

theorem Like.refl (w : World) : Like w w := ⟨rfl, rfl, rfl, rfl⟩
theorem Like.trans {a b c : World} (h : Like a b) (k : Like b c) : Like a c :=
  ⟨k.heap.trans h.heap, k.os.trans h.os, k.tape.trans h.tape, k.output.trans h.output⟩
theorem Like.below {w w' : World} (h : Like w w') (n : Nat) : Below n w w' :=
  ⟨h.os, h.tape, h.output, by rw [h.heap]; exact Nat.le_refl _, fun _ _ => by rw [h.heap]⟩
theorem Like.own {w w' : World} (h : Like w w') (p : Nat) : Own p w w' :=
  ⟨h.os, h.tape, h.output, by rw [h.heap]; exact Nat.le_refl _, fun _ _ _ => by rw [h.heap]⟩
theorem Like.cell {w w' : World} (h : Like w w') (a : Addr) : w'.cell? a = w.cell? a := by
  unfold World.cell?
  rw [h.heap]
theorem Like.src {p : Nat} {w w' : World} (h : Like w w') (s : Src p w) : Src p w' := by
  obtain ⟨len, cap, pos, ad, x, hg, a, b, c, d, hc⟩ := s
  refine ⟨len, cap, pos, ad, x, by rw [h.heap]; exact hg, a, b, c, d, fun h0 => ?_⟩
  obtain ⟨cb, off, e, ne, lt, hb⟩ := hc h0
  refine ⟨cb, off, e, ne, by rw [h.heap]; omega, fun i hi => ?_⟩
  rw [h.cell]
  exact hb i hi

/-- a run hands back some float -/
def Gives (P : Program) (m : Sem Value) (k : FloatKind) (w : World) : Prop := ∃ z w', Like w w' ∧ m.run P w = .ok (.float k z) w'

theorem gives_pure (P : Program) (k : FloatKind) (z : Nat) (w : World) : Gives P (pure (.float k z)) k w := ⟨z, w, .refl w, rfl⟩
theorem gives_ask (P : Program) (k : FloatKind) (q : Question) (w : World) : Gives P (do pure (.float k (← choose q))) k w := by
  by_cases h : q.forced = true
  · exact ⟨0, w, .refl w, by simp [h]⟩
  · exact ⟨q.cut (w.tape w.drawn q), w.drew, ⟨rfl, rfl, rfl, rfl⟩, by simp [h]⟩
theorem gives_arith (P : Program) (op : BinOp) (ho : op = .add ∨ op = .sub ∨ op = .mul ∨ op = .quo) (t : TypeId) (k : FloatKind) (x y : Nat) (w : World) :
    Gives P (binOp op t (.float k x) (.float k y)) k w := by
  have hb : binOp op t (.float k x) (.float k y) = Op.floatArith op k x y := by
    rcases ho with rfl | rfl | rfl | rfl <;> simp [binOp]
  rw [hb]
  unfold Op.floatArith
  have key : ∀ r : Option Nat, Gives P (match r with | some r => pure (.float k r) | none => do pure (.float k (← choose (.nanBits k x y)))) k w := fun r => by
    cases r with
    | some r => exact gives_pure P k r w
    | none => exact gives_ask P k _ w
  rcases ho with rfl | rfl | rfl | rfl
  · exact key _
  · exact key _
  · exact key _
  · exact key _
theorem gives_conv (P : Program) (s k : FloatKind) (b : Nat) (w : World) : Gives P (Conv.floatToFloat s b k) k w := by
  unfold Conv.floatToFloat
  split
  · exact gives_pure P k _ w
  · split
    · exact gives_ask P k _ w
    · exact gives_pure P k _ w
    · dsimp only
      split
      · exact gives_ask P k _ w
      · exact gives_pure P k _ w

theorem gives_neg (P : Program) (k : FloatKind) (b : Nat) (w : World) : Gives P (Op.unary .neg (.float k b)) k w := gives_pure P k _ w

theorem upon_gives {P : Program} {o : Oper} {a : Act} {nx : Act → World → Prop} {Q : Exit → Act → World → Prop} {m : Sem Value} {w : World} {k : FloatKind}
    (h : Gives P m k w) (g : ∀ z w', Like w w' → nx (a.put o.dst (.float k z)) w') :
    Oper.upon P o a nx Q ((m.run P w).andThen fun a w' => .ok (.value a) w') := by
  obtain ⟨z, w', hl, e⟩ := h
  rw [e]
  exact g z w' hl
/-! A power of two is a number. Condition: its exponent is small. -/

set_option maxRecDepth 100000 in
set_option maxHeartbeats 400000 in
theorem two_any (k : Int) (w : World) (h0 : -2000 ≤ k) (h1 : k ≤ 2000) : Calls Try.prog 146 #[.int .i64 k] w (fun e w' => ∃ x, e = .returned (.float .f64 x) ∧ Below w.heap.size w w') := by
  go_enter Try.func146, Try.ntmps146
  go_wp2_with fail
  go_loopw [0, 3] (fun i f wr => (∃ j x, i = .int .i64 j ∧ f = .float .f64 x ∧ -2000 ≤ j ∧ j ≤ 2000) ∧ Hid (Below w.heap.size w wr)) (fun i _ _ => (intOf i).toNat)
  case atStart => exact ⟨⟨k, _, rfl, rfl, h0, h1⟩, Lib.hid (Below.refl _ _)⟩
  case round =>
    obtain ⟨⟨j, x, rfl, rfl, j0, j1⟩, HB⟩ := hrel
    by_cases hj : (0 : Int) < j
    · have hw : IntKind.i64.wrap (j - 1) = j - 1 := IntWalk.i64_in _ (by omega)
      go_wp2_with fail
      refine upon_gives (gives_arith _ _ (by decide) _ _ _ _ _) fun z w' hl => ?_
      have HB' := Lib.hid (HB.out.trans (hl.below _))
      clear HB
      go_wp2_with fail
      exact ⟨⟨⟨j - 1, z, rfl, rfl, by omega, by omega⟩, HB'⟩, by show (j - 1).toNat < j.toNat; omega⟩
    · go_wp2_with fail
      go_loopw [0, 3] (fun i f wr => (∃ j x, i = .int .i64 j ∧ f = .float .f64 x ∧ -2000 ≤ j ∧ j ≤ 2000) ∧ Hid (Below w.heap.size w wr)) (fun i _ _ => (- intOf i).toNat)
      case atStart => exact ⟨⟨j, _, rfl, rfl, j0, j1⟩, HB⟩
      case round =>
        obtain ⟨⟨j, x, rfl, rfl, j0, j1⟩, HB⟩ := hrel
        by_cases hj : j < (0 : Int)
        · have hw : IntKind.i64.wrap (j + 1) = j + 1 := IntWalk.i64_in _ (by omega)
          go_wp2_with fail
          refine upon_gives (gives_arith _ _ (by decide) _ _ _ _ _) fun z w' hl => ?_
          have HB' := Lib.hid (HB.out.trans (hl.below _))
          clear HB
          go_wp2_with fail
          exact ⟨⟨⟨j + 1, z, rfl, rfl, by omega, by omega⟩, HB'⟩, by show (-(j + 1)).toNat < (-j).toNat; omega⟩
        · go_wp2_with fail
          go_ret
          exact ⟨⟨_, rfl⟩, HB.out⟩
/-! The float with a place is some float. Condition: a place that is one, or its opposite. -/

/-- a number's own answer -/
def Num (w : World) (e : Ending) (w' : World) : Prop := ∃ x, e = .returned (.float .f32 x) ∧ Below w.heap.size w w'

set_option maxRecDepth 100000 in
set_option maxHeartbeats 400000 in
theorem float_low (k : Int) (w : World) (h0 : 0 ≤ k) (h1 : k < 8388608) : Calls Try.prog 136 #[.int .i64 k] w (Num w) := by
  have n0 : ¬ k < 0 := by omega
  go_enter Try.func136, Try.ntmps136
  go_wp2_with fail
  refine (two_any (-149) w (by omega) (by omega)).mono ?_
  rintro e w1 ⟨x, rfl, b1⟩
  have B1 := Lib.hid b1
  clear b1
  go_wp2_with fail
  refine upon_gives (gives_arith _ _ (by decide) _ _ _ _ _) fun z w2 hl => ?_
  have B2 := Lib.hid (B1.out.trans (hl.below _))
  clear B1
  go_wp2_with fail
  refine upon_gives (gives_conv _ _ _ _ _) fun z2 w3 hl2 => ?_
  have B3 := Lib.hid (B2.out.trans (hl2.below _))
  clear B2
  go_wp2_with fail
  go_ret
  exact ⟨_, rfl, B3.out⟩

set_option maxRecDepth 100000 in
set_option maxHeartbeats 400000 in
theorem float_high (k : Int) (w : World) (h0 : 8388608 ≤ k) (h1 : k ≤ 4294967296) : Calls Try.prog 136 #[.int .i64 k] w (Num w) := by
  have n0 : ¬ k < 0 := by omega
  have n1 : ¬ k < 8388608 := by omega
  go_enter Try.func136, Try.ntmps136
  go_wp2_with fail
  refine (two_any (k / 8388608 - 127 - 23) w (by omega) (by omega)).mono ?_
  rintro e w1 ⟨x, rfl, b1⟩
  have B1 := Lib.hid b1
  clear b1
  go_wp2_with fail
  refine upon_gives (gives_arith _ _ (by decide) _ _ _ _ _) fun z w2 hl => ?_
  have B2 := Lib.hid (B1.out.trans (hl.below _))
  clear B1
  go_wp2_with fail
  refine upon_gives (gives_conv _ _ _ _ _) fun z2 w3 hl2 => ?_
  have B3 := Lib.hid (B2.out.trans (hl2.below _))
  clear B2
  go_wp2_with fail
  go_ret
  exact ⟨_, rfl, B3.out⟩

theorem float_pos (k : Int) (w : World) (h0 : 0 ≤ k) (h1 : k ≤ 4294967296) : Calls Try.prog 136 #[.int .i64 k] w (Num w) := by
  by_cases hl : k < 8388608
  · exact float_low k w h0 hl
  · exact float_high k w (by omega) h1

set_option maxRecDepth 100000 in
set_option maxHeartbeats 400000 in
theorem float_any (k : Int) (w : World) (h0 : -4294967296 ≤ k) (h1 : k ≤ 4294967296) : Calls Try.prog 136 #[.int .i64 k] w (Num w) := by
  by_cases hp : 0 ≤ k
  · exact float_pos k w hp h1
  have n0 : k < 0 := by omega
  have hw : IntKind.i64.wrap (-k) = -k := IntWalk.i64_in _ (by omega)
  go_enter Try.func136, Try.ntmps136
  go_wp2_with fail
  refine (float_pos (-k) w (by omega) (by omega)).mono ?_
  rintro e w1 ⟨x, rfl, b1⟩
  have B1 := Lib.hid b1
  clear b1
  go_wp2_with fail
  refine upon_gives (gives_neg _ _ _ _) fun z w2 hl => ?_
  have B2 := Lib.hid (B1.out.trans (hl.below _))
  clear B1
  go_wp2_with fail
  go_ret
  exact ⟨_, rfl, B2.out⟩

theorem Below.toOwn {w w' : World} (h : Below w.heap.size w w') (p : Nat) : Own p w w' :=
  ⟨h.os, h.tape, h.output, h.size, fun k hk _ => h.block k hk⟩
theorem Src.below {p : Nat} {w w' : World} (s : Src p w) (h : Below w.heap.size w w') : Src p w' := by
  have hl := s.lt
  obtain ⟨len, cap, pos, ad, x, hg, a, b, c, d, hc⟩ := s
  refine ⟨len, cap, pos, ad, x, by rw [h.block p hl]; exact hg, a, b, c, d, fun h0 => ?_⟩
  obtain ⟨cb, off, e, ne, lt, hb⟩ := hc h0
  refine ⟨cb, off, e, ne, Nat.lt_of_lt_of_le lt h.size, fun i hi => ?_⟩
  rw [h.cell (p := ⟨cb, off + i, none⟩) lt]
  exact hb i hi

/-- a float was drawn -/
def NumD (p : Nat) (w : World) (e : Ending) (w' : World) : Prop := ∃ x, e = .returned (.float .f32 x) ∧ Src p w' ∧ Own p w w'
/-! A number's draw leaves some float and turns the source alone. Condition: a source. -/

set_option maxRecDepth 100000 in
set_option maxHeartbeats 400000 in
theorem drawUnit_any (p : Nat) (w : World) (hs : Src p w) : Calls Try.prog 147 #[.pointer (some ⟨p, 0, none⟩)] w (NumD p w) := by
  go_enter Try.func147, Try.ntmps147
  go_wp2_with fail
  refine (next_any p 6 w hs).mono ?_
  rintro e w1 ⟨r, rfl, r0, r1, s1, o1⟩
  have S1 := Lib.hid s1
  have O1 := Lib.hid o1
  clear s1 o1
  by_cases h0 : r = 0
  · subst h0
    go_wp2_with fail
    refine (next_any p 3 w1 S1.out).mono ?_
    rintro e w2 ⟨q, rfl, q0, q1, s2, o2⟩
    have S2 := Lib.hid s2
    have O2 := Lib.hid (O1.out.trans o2)
    clear s2 o2
    have hw : IntKind.i64.wrap (q - 1) = q - 1 := IntWalk.i64_in _ (by omega)
    go_wp2_with fail
    go_ret
    exact ⟨_, rfl, S2.out, O2.out⟩
  by_cases h1 : r = 1
  · subst h1
    go_wp2_with fail
    refine (next_any p 129 w1 S1.out).mono ?_
    rintro e w2 ⟨q, rfl, q0, q1, s2, o2⟩
    have S2 := Lib.hid s2
    have O2 := Lib.hid (O1.out.trans o2)
    clear s2 o2
    have hw : IntKind.i64.wrap (q - 64) = q - 64 := IntWalk.i64_in _ (by omega)
    go_wp2_with fail
    (first | refine upon_gives (gives_arith _ _ (by decide) _ _ _ _ _) ?_ | refine upon_gives (gives_conv _ _ _ _ _) ?_ | refine upon_gives (gives_neg _ _ _ _) ?_)
    intro z wz hl
    replace S2 := Lib.hid (Like.src hl (S2).out)
    replace O2 := Lib.hid (Own.trans (O2).out (Like.own hl _))
    clear hl
    go_wp2_with fail
    (first | refine upon_gives (gives_arith _ _ (by decide) _ _ _ _ _) ?_ | refine upon_gives (gives_conv _ _ _ _ _) ?_ | refine upon_gives (gives_neg _ _ _ _) ?_)
    intro z wz hl
    replace S2 := Lib.hid (Like.src hl (S2).out)
    replace O2 := Lib.hid (Own.trans (O2).out (Like.own hl _))
    clear hl
    go_wp2_with fail
    go_ret
    exact ⟨_, rfl, S2.out, O2.out⟩
  by_cases h2 : r = 2
  · subst h2
    go_wp2_with fail
    refine (next_any p 33554432 w1 S1.out).mono ?_
    rintro e w2 ⟨q, rfl, q0, q1, s2, o2⟩
    have S2 := Lib.hid s2
    have O2 := Lib.hid (O1.out.trans o2)
    clear s2 o2
    have hw : IntKind.i64.wrap (q - 16777216) = q - 16777216 := IntWalk.i64_in _ (by omega)
    go_wp2_with fail
    (first | refine upon_gives (gives_arith _ _ (by decide) _ _ _ _ _) ?_ | refine upon_gives (gives_conv _ _ _ _ _) ?_ | refine upon_gives (gives_neg _ _ _ _) ?_)
    intro z wz hl
    replace S2 := Lib.hid (Like.src hl (S2).out)
    replace O2 := Lib.hid (Own.trans (O2).out (Like.own hl _))
    clear hl
    go_wp2_with fail
    (first | refine upon_gives (gives_arith _ _ (by decide) _ _ _ _ _) ?_ | refine upon_gives (gives_conv _ _ _ _ _) ?_ | refine upon_gives (gives_neg _ _ _ _) ?_)
    intro z wz hl
    replace S2 := Lib.hid (Like.src hl (S2).out)
    replace O2 := Lib.hid (Own.trans (O2).out (Like.own hl _))
    clear hl
    go_wp2_with fail
    go_ret
    exact ⟨_, rfl, S2.out, O2.out⟩
  · go_wp2_with fail
    refine (next_any p 33554432 w1 S1.out).mono ?_
    rintro e w2 ⟨q, rfl, q0, q1, s2, o2⟩
    have S2 := Lib.hid s2
    have O2 := Lib.hid (O1.out.trans o2)
    clear s2 o2
    have hw : IntKind.i64.wrap (q - 16777216) = q - 16777216 := IntWalk.i64_in _ (by omega)
    go_wp2_with fail
    (first | refine upon_gives (gives_arith _ _ (by decide) _ _ _ _ _) ?_ | refine upon_gives (gives_conv _ _ _ _ _) ?_ | refine upon_gives (gives_neg _ _ _ _) ?_)
    intro z wz hl
    replace S2 := Lib.hid (Like.src hl (S2).out)
    replace O2 := Lib.hid (Own.trans (O2).out (Like.own hl _))
    clear hl
    go_wp2_with fail
    (first | refine upon_gives (gives_arith _ _ (by decide) _ _ _ _ _) ?_ | refine upon_gives (gives_conv _ _ _ _ _) ?_ | refine upon_gives (gives_neg _ _ _ _) ?_)
    intro z wz hl
    replace S2 := Lib.hid (Like.src hl (S2).out)
    replace O2 := Lib.hid (Own.trans (O2).out (Like.own hl _))
    clear hl
    go_wp2_with fail
    go_ret
    exact ⟨_, rfl, S2.out, O2.out⟩
set_option maxRecDepth 100000 in
set_option maxHeartbeats 800000 in
theorem drawNumber_any (p : Nat) (w : World) (hs : Src p w) : Calls Try.prog 148 #[.pointer (some ⟨p, 0, none⟩)] w (NumD p w) := by
  go_enter Try.func148, Try.ntmps148
  go_wp2_with fail
  refine (next_any p 2139095040 w hs).mono ?_
  rintro e w1 ⟨r, rfl, r0, r1, s1, o1⟩
  have S1 := Lib.hid s1
  have O1 := Lib.hid o1
  clear s1 o1
  go_wp2_with fail
  refine (next_any p 10 w1 S1.out).mono ?_
  rintro e w2 ⟨k, rfl, k0, k1, s2, o2⟩
  have S2 := Lib.hid s2
  have O2 := Lib.hid (O1.out.trans o2)
  clear s2 o2
  go_upto_block 0 with fail
  go_cut [3] (fun i wx => ∃ q : Int, i = .int .i64 q ∧ 0 ≤ q ∧ q ≤ 2147483647 ∧ Hid (Src p wx) ∧ Hid (Own p w wx))
  case first =>
    by_cases h0 : k = 0
    · subst h0
      go_wp2_with fail
      refine (next_any p 4 w2 S2.out).mono ?_
      rintro e w3 ⟨q, rfl, q0, q1, s3, o3⟩
      go_wp2_with fail
      go_meet
      exact ⟨_, rfl, by omega, by omega, Lib.hid s3, Lib.hid (O2.out.trans o3)⟩
    by_cases h1 : k = 1
    · subst h1
      go_wp2_with fail
      refine (next_any p 16777216 w2 S2.out).mono ?_
      rintro e w3 ⟨q, rfl, q0, q1, s3, o3⟩
      go_wp2_with fail
      go_meet
      exact ⟨_, rfl, by omega, by omega, Lib.hid s3, Lib.hid (O2.out.trans o3)⟩
    by_cases h2 : k = 2
    · subst h2
      go_wp2_with fail
      refine (next_any p 4194304 w2 S2.out).mono ?_
      rintro e w3 ⟨q, rfl, q0, q1, s3, o3⟩
      have hw : IntKind.i64.wrap (2139095039 - q) = 2139095039 - q := IntWalk.i64_in _ (by omega)
      go_wp2_with fail
      go_meet
      exact ⟨_, rfl, by omega, by omega, Lib.hid s3, Lib.hid (O2.out.trans o3)⟩
    by_cases h3 : k = 3
    · subst h3
      go_wp2_with fail
      refine (next_any p 255 w2 S2.out).mono ?_
      rintro e w3 ⟨q, rfl, q0, q1, s3, o3⟩
      go_wp2_with fail
      go_meet
      exact ⟨_, rfl, by omega, by omega, Lib.hid s3, Lib.hid (O2.out.trans o3)⟩
    by_cases h4 : k = 4
    · subst h4
      go_wp2_with fail
      refine (pick_lit p [63, 190, 52] w2 S2.out (by simp) (by simp)).mono ?_
      rintro e w3 ⟨q, hq, rfl, s3, o3⟩
      have hq' : q = 63 ∨ q = 190 ∨ q = 52 := by simpa using hq
      clear hq
      have hw : wrap64 (q * 8388608) = q * 8388608 := by unfold wrap64; omega
      have O3 := Lib.hid (O2.out.trans o3)
      clear o3
      go_wp2_with fail
      refine (next_any p 16777216 w3 s3).mono ?_
      rintro e w4 ⟨q2, rfl, q20, q21, s4, o4⟩
      have hw2 : IntKind.i64.wrap (q * 8388608 + q2) = q * 8388608 + q2 := IntWalk.i64_in _ (by omega)
      go_wp2_with fail
      go_meet
      exact ⟨_, rfl, by omega, by omega, Lib.hid s4, Lib.hid (O3.out.trans o4)⟩
    · go_wp2_with fail
      go_meet
      exact ⟨_, rfl, by omega, by omega, S2, O2⟩
  case rest =>
    obtain ⟨q, rfl, q0, q1, S3, O3⟩ := hcut
    go_wp2_with fail
    refine (next_any p 2 wc S3.out).mono ?_
    rintro e w3 ⟨r, rfl, r0, r1, s4, o4⟩
    have hw : IntKind.i64.wrap (-q) = -q := IntWalk.i64_in _ (by omega)
    by_cases hr : r = 0
    · subst hr
      go_wp2_with fail
      refine (float_any (-q) w3 (by omega) (by omega)).mono ?_
      rintro e w4 ⟨y, rfl, b4⟩
      go_wp2_with fail
      go_ret
      exact ⟨_, rfl, s4.below b4, (O3.out.trans o4).trans (Below.toOwn b4 p)⟩
    · have hr' : (r == 0) = false := by simp [hr]
      go_wp2_with fail
      refine (float_any q w3 (by omega) (by omega)).mono ?_
      rintro e w4 ⟨y, rfl, b4⟩
      go_wp2_with fail
      go_ret
      exact ⟨_, rfl, s4.below b4, (O3.out.trans o4).trans (Below.toOwn b4 p)⟩
/-! The draw of a complex number. Condition: a source. -/

/-- a complex number was drawn -/
def CplD (p : Nat) (w : World) (e : Ending) (w' : World) : Prop := ∃ x y, e = .returned (.complex .f32 x y) ∧ Src p w' ∧ Own p w w'

end Go.Proofs.Ytjmfffgddmnkmab
