/- Height maps that are drawn: a side, whatever it be, and a list of whole numbers. Condition: a source. -/
import Derived.Test.YtjmfffgddmnkmacDr2
import Derived.Test.YtjmfffgddmnkmacM9
import Derived.Test.YtjmfffgddmnkmacM10
import Derived.Deep.CutBlock
import Derived.Deep.DeepCutAuto
namespace Go.Proofs.Ytjmfffgddmnkmac
open Go Go.RowKit

theorem Own.trn {B p : Nat} {v : Value} {L : List Int} {w w' : World} (h : Own B v L w) (o : Trn p w w') (hp : p < B) : Own B v L w' := by
  refine ⟨h.1, ?_⟩
  rcases h.2 with h2 | ⟨g, cap, cur, hv, hb, hg, r⟩
  · exact .inl h2
  · have hlt : g < w.heap.size := by
      rcases Nat.lt_or_ge g w.heap.size with h | h
      · exact h
      · rw [Array.getElem?_eq_none h] at hg; cases hg
    exact .inr ⟨g, cap, cur, hv, hb, by rw [o.block g hlt (by omega)]; exact hg, r⟩
theorem Src.keptI {p B : Nat} {w w' : World} (s : Src p w) (k : Below B w w') (hp : p < B) : Src p w' := by
  obtain ⟨len, cap, pos, ad, x, hg, a, b, c, d, hc⟩ := s
  refine ⟨len, cap, pos, ad, x, by rw [k.block p hp]; exact hg, a, b, c, d, fun h0 => ?_⟩
  obtain ⟨cb, off, e, ne, lt, hb⟩ := hc h0
  refine ⟨cb, off, e, ne, by have := k.size; omega, fun i hi => ?_⟩
  rw [k.cell (p := ⟨cb, off + i, none⟩) (show cb < B by omega)]
  exact hb i hi
theorem Trn.keptI {p : Nat} {a w w' : World} (h : Trn p a w) (k : Below a.heap.size w w') : Trn p a w' :=
  ⟨k.os.trans h.os, k.tape.trans h.tape, k.output.trans h.output, Nat.le_trans h.size k.size, fun i hi hne => (k.block i hi).trans (h.block i hi hne)⟩

/-- a map was drawn -/
def MapD (p : Nat) (w : World) (e : Ending) (w' : World) : Prop := ∃ (n : Int) (v : Value) (L : List Int), e = .returned (.tuple #[.int .i64 n, v]) ∧ L.length ≤ 65 ∧ Own w.heap.size v L w' ∧ Src p w' ∧ Trn p w w' ∧ (side n = false ∨ side n = true)

set_option maxRecDepth 100000 in
set_option maxHeartbeats 3200000 in
theorem l07Map_any (p : Nat) (b : Bool) (w : World) (hs : Src p w) : Calls Try.prog 28 #[.pointer (some ⟨p, 0, none⟩), .bool b] w (MapD p w) := by
  have HP := Lib.hid hs.lt
  have HS := Lib.hid hs
  clear hs
  go_enter Try.func28, Try.ntmps28
  go_wp2_with fail
  refine (drawSide_any p w HS.out).mono ?_
  rintro e w1 ⟨n, rfl, hn, s1, o1⟩
  obtain ⟨m, rfl, hm1, hm8, N, hw0, hN64⟩ : ∃ m : Nat, n = m ∧ 1 ≤ m ∧ m ≤ 8 ∧ ∃ N : Nat, IntKind.i64.wrap (n * n) = (N : Int) ∧ N ≤ 64 := by
    rcases hn with rfl | rfl | rfl | rfl
    · exact ⟨1, rfl, by omega, by omega, 1, rfl, by omega⟩
    · exact ⟨2, rfl, by omega, by omega, 4, rfl, by omega⟩
    · exact ⟨4, rfl, by omega, by omega, 16, rfl, by omega⟩
    · exact ⟨8, rfl, by omega, by omega, 64, rfl, by omega⟩
  have S1 := Lib.hid (s1.alloc (.cells #[] 2))
  have T1 := Lib.hid (o1.alloc (.cells #[] 2))
  have O1 : Hid (Own w.heap.size (.slice (some ⟨w1.heap.size, 0, none⟩) 0 0) [] (w1.alloc (.cells #[] 2))) := Lib.hid (Own.empty _ _ o1.size)
  clear s1 o1 hn HS
  go_wp2_with fail
  refine (next_any p 61 _ S1.out).mono ?_
  rintro e w2 ⟨r1, rfl, r10, r11, s2, o2⟩
  have hu : IntKind.i64.wrap (r1 - 30) = r1 - 30 := IntWalk.i64_in _ (by omega)
  have S2 := Lib.hid s2
  have T2 := Lib.hid (T1.out.trans o2)
  have O2 := Lib.hid (O1.out.trn o2 HP.out)
  clear s2 o2 S1 T1 O1
  go_wp2_with fail
  refine (next_any p 61 _ S2.out).mono ?_
  rintro e w3 ⟨r2, rfl, r20, r21, s3, o3⟩
  have hv : IntKind.i64.wrap (r2 - 30) = r2 - 30 := IntWalk.i64_in _ (by omega)
  have S3 := Lib.hid s3
  have T3 := Lib.hid (T2.out.trans o3)
  have O3 := Lib.hid (O2.out.trn o3 HP.out)
  clear s3 o3 S2 T2 O2
  go_wp2_with fail
  refine (next_any p 4 _ S3.out).mono ?_
  rintro e w4 ⟨r3, rfl, r30, r31, s4, o4⟩
  have S4 := Lib.hid s4
  have T4 := Lib.hid (T3.out.trans o4)
  have O4 := Lib.hid (O3.out.trn o4 HP.out)
  clear s4 o4 S3 T3 O3
  go_wp2_with fail
  generalize r1 - 30 = u at *
  generalize r2 - 30 = v at *
  clear r10 r11 r20 r21 hu hv
  have hm0 : ¬ m = 0 := by omega
  go_loopw [7, 11] (fun q i wr => ∃ k L, k ≤ N ∧ i = .int .i64 (k : Nat) ∧ Hid (L.length = k) ∧ Hid (Own w.heap.size q L wr) ∧ Hid (Src p wr) ∧ Hid (Trn p w wr)) (fun _ i _ => N - (intOf i).toNat)
  case atStart => exact ⟨0, [], by omega, rfl, Lib.hid rfl, O4, S4, T4⟩
  case round =>
    clear S4 O4 T4
    obtain ⟨k, L, hk, rfl, HL, O, S, T⟩ := hrel
    obtain ⟨ad, cp, e0, _⟩ := O.out.came
    subst e0
    have hkl := HL.out
    rw [hkl] at O ⊢
    clear hkl
    by_cases hlt : k < N
    · have hdk : decide ((k : Int) < (N : Int)) = true := by simp; omega
      obtain ⟨y, hy⟩ : ∃ y, k / m = y := ⟨_, rfl⟩
      obtain ⟨x, hx⟩ : ∃ x, k % m = x := ⟨_, rfl⟩
      have hdiv : ((k : Int)).tdiv (m : Int) = (y : Int) := by rw [Int.tdiv_eq_ediv_of_nonneg (by omega), ← Int.natCast_ediv, hy]
      have hmod : ((k : Int)).tmod (m : Int) = (x : Int) := by rw [Int.tmod_eq_emod_of_nonneg (by omega), ← Int.natCast_emod, hx]
      have hy1 : y ≤ k := by rw [← hy]; exact Nat.div_le_self _ _
      have hyw : IntKind.i64.wrap (y : Int) = y := IntWalk.i64_in _ (by omega)
      obtain ⟨z1, hz1⟩ : ∃ z, IntKind.i64.wrap (u * (x : Int)) = z := ⟨_, rfl⟩
      obtain ⟨z2, hz2⟩ : ∃ z, IntKind.i64.wrap (v * (y : Int)) = z := ⟨_, rfl⟩
      obtain ⟨z3, hz3⟩ : ∃ z, IntKind.i64.wrap (z1 + z2) = z := ⟨_, rfl⟩
      clear hx hy
      clear hy1
      go_wp2_with fail
      go_region
      all_goals go_upto_block 2 with fail
      have O5 : Hid (Own w.heap.size (.slice ad k cp) L wr.drew) := O
      have S5 : Hid (Src p wr.drew) := Lib.hid (S.out.keptI (below_drewN (Below.refl wr.heap.size wr) 1) S.out.lt)
      have T5 : Hid (Trn p w wr.drew) := Lib.hid (T.out.keptI (below_drewN (Below.refl _ _) 1))
      clear O S T
      go_cut [12] (fun h wx => ∃ z, h = .int .i64 z ∧ Hid (Own w.heap.size (.slice ad k cp) L wx) ∧ Hid (Src p wx) ∧ Hid (Trn p w wx))
      case first =>
        by_cases h0 : r3 = 0
        · subst h0
          go_wp2_with fail
          refine (next_any p 64 _ S5.out).mono ?_
          rintro e w6 ⟨r, rfl, _, _, s6, o6⟩
          have O6 := Lib.hid (O5.out.trn o6 HP.out)
          have S6 := Lib.hid s6
          have T6 := Lib.hid (T5.out.trans o6)
          clear s6 o6
          go_wp2_with fail
          go_meet
          exact ⟨_, rfl, O6, S6, T6⟩
        · have hq0 : (r3 == 0) = false := by simpa using h0
          by_cases h1 : r3 = 1
          · subst h1
            go_wp2_with fail
            refine (next_any p 5 _ S5.out).mono ?_
            rintro e w6 ⟨r, rfl, _, _, s6, o6⟩
            have O6 := Lib.hid (O5.out.trn o6 HP.out)
            have S6 := Lib.hid s6
            have T6 := Lib.hid (T5.out.trans o6)
            clear s6 o6
            obtain ⟨z4, hz4⟩ : ∃ z, IntKind.i64.wrap (z3 + r) = z := ⟨_, rfl⟩
            go_wp2_with fail
            go_meet
            exact ⟨_, rfl, O6, S6, T6⟩
          · have hq1 : (r3 == 1) = false := by simpa using h1
            go_wp2_with fail
            go_meet
            exact ⟨_, rfl, O5, S5, T5⟩
      case rest =>
      obtain ⟨z, rfl, O6, S6, T6⟩ := hcut
      clear O5 S5 T5
      go_upto_if 54 with fail
      go_cut [12] (fun h wx => ∃ z, h = .int .i64 z ∧ Hid (Own w.heap.size (.slice ad k cp) L wx) ∧ Hid (Src p wx) ∧ Hid (Trn p w wx))
      case first =>
        cases b
        · go_wp2_with fail
          go_meet
          exact ⟨_, rfl, O6, S6, T6⟩
        · go_wp2_with fail
          refine (l07Wrap_any z _).mono ?_
          rintro e w7 ⟨rfl, rfl⟩
          go_wp2_with fail
          go_meet
          exact ⟨_, rfl, O6, S6, T6⟩
      case rest =>
      obtain ⟨z', rfl, O7, S7, T7⟩ := hcut
      have HLN : Hid (L.length ≤ 1048576) := Lib.hid (by rw [HL.out]; omega)
      have O8 : Hid (Own w.heap.size (.slice ad k cp) L wc) := O7
      clear O6 S6 T6 O7
      go_wp2_with (at_builtin; refine wpList_push rfl (.tmp 57) (.tmp 59) rfl w.heap.size _ _ z' rfl rfl O8.out HLN.out T7.out.size ?_)
      intro v' w8 O9 B9
      have O10 := Lib.hid O9
      have S10 := Lib.hid (S7.out.keptI B9 HP.out)
      have T10 := Lib.hid (T7.out.keptI B9)
      clear O9 B9 O8 S7 T7
      go_wp2_with fail
      exact ⟨⟨k + 1, L ++ [z'], by omega, by go_num, Lib.hid (by rw [List.length_append, HL.out]; rfl), O10, S10, T10⟩, by simp [intOf]; omega⟩
    · obtain rfl : k = N := by omega
      have hkk : k ≤ 64 := hN64
      go_wp2_with fail
      refine (next_any p 30 _ S.out).mono ?_
      rintro e w5 ⟨r, rfl, r0, r1, s5, o5⟩
      have O5 := Lib.hid (O.out.trn o5 HP.out)
      have S5 := Lib.hid s5
      have T5 := Lib.hid (T.out.trans o5)
      clear s5 o5 O S T
      go_upto_block 3 with fail
      go_cut [6, 7] (fun nn q wx => ∃ (n2 : Int) (L2 : List Int), nn = .int .i64 n2 ∧ Hid (L2.length ≤ 65) ∧ Hid (Own w.heap.size q L2 wx) ∧ Hid (Src p wx) ∧ Hid (Trn p w wx))
      case first =>
        by_cases h0 : r = 0
        · subst h0
          have hpos : 0 < k := by
            rcases Nat.eq_zero_or_pos k with e | e
            · exfalso
              subst e
              have h9 : (m : Int) * m ≤ 64 := by rw [← Int.natCast_mul]; have := Nat.mul_le_mul hm8 hm8; omega
              have h8 : (1 : Int) ≤ (m : Int) * m := by rw [← Int.natCast_mul]; have := Nat.mul_le_mul hm1 hm1; omega
              rw [IntWalk.i64_in _ (by omega)] at hw0
              omega
            · exact e
          have o6 := O5.out
          obtain ⟨g, cp2, e6, hg6, _⟩ := o6.form (by rw [HL.out]; exact hpos)
          rw [HL.out] at e6
          cases e6
          go_wp2_with fail
          refine (pick_lit p [64, -1, 100000, 100001, -4611686018427387904] w5 S5.out (by simp) (by simp)).mono ?_
          rintro e w6 ⟨z, _, rfl, s6, o7⟩
          have O6 := O5.out.trn o7 HP.out
          have o8 : Own w.heap.size (.slice (some ⟨g, 0, none⟩) L.length cp) L w6 := by rw [HL.out]; exact O6
          have c0 := o8.cell 0 (by rw [HL.out]; exact hpos)
          have z0 := o8.free 0
          have HST := Lib.hid (o8.stored 0 z)
          have S6 := Lib.hid s6
          have T6 := Lib.hid (T5.out.trans o7)
          have hkp : (0 : Int) < (k : Int) := by omega
          clear s6 o7 O6 o8 o6
          generalize L.getD 0 0 = l0 at *
          go_wp2_with fail
          go_meet
          exact ⟨_, L.set 0 z, rfl, Lib.hid (by rw [List.length_set, HL.out]; omega), Lib.hid (by have h9 := HST.out; rw [HL.out] at h9; exact h9), Lib.hid (S6.out.keptI ((Below.refl w.heap.size w6).setCell (p := ⟨g, 0, none⟩) hg6 _) HP.out), Lib.hid (T6.out.keptI ((Below.refl w.heap.size w6).setCell (p := ⟨g, 0, none⟩) hg6 _))⟩
        · have hq0 : (r == 0) = false := by simpa using h0
          by_cases h1 : r = 1
          · subst h1
            have HLN : Hid (L.length ≤ 1048576) := Lib.hid (by rw [HL.out]; omega)
            go_wp2_with (at_builtin; refine wpList_push rfl (.tmp 72) (.tmp 73) rfl w.heap.size _ _ 0 rfl rfl O5.out HLN.out T5.out.size ?_)
            intro v' w8 O9 B9
            have O10 := Lib.hid O9
            have S10 := Lib.hid (S5.out.keptI B9 HP.out)
            have T10 := Lib.hid (T5.out.keptI B9)
            clear O9 B9
            go_wp2_with fail
            go_meet
            exact ⟨_, _, rfl, Lib.hid (by rw [List.length_append, HL.out]; simp; omega), O10, S10, T10⟩
          · have hq1 : (r == 1) = false := by simpa using h1
            by_cases h2 : r = 2
            · subst h2
              go_wp2_with fail
              refine (pick_lit p [0, 3, 16, -1] w5 S5.out (by simp) (by simp)).mono ?_
              rintro e w6 ⟨z, _, rfl, s6, o6⟩
              have O6 := Lib.hid (O5.out.trn o6 HP.out)
              have S6 := Lib.hid s6
              have T6 := Lib.hid (T5.out.trans o6)
              clear s6 o6
              go_wp2_with fail
              go_meet
              exact ⟨_, _, rfl, Lib.hid (by rw [HL.out]; omega), O6, S6, T6⟩
            · have hq2 : (r == 2) = false := by simpa using h2
              go_wp2_with fail
              go_meet
              exact ⟨_, _, rfl, Lib.hid (by rw [HL.out]; omega), O5, S5, T5⟩
      case rest =>
      obtain ⟨n2, L2, rfl, HL2, O6, S6, T6⟩ := hcut
      go_wp2_with fail
      go_ret2
      exact ⟨_, _, L2, rfl, HL2.out, O6.out, S6.out, T6.out, by cases side n2; exact .inl rfl; exact .inr rfl⟩

end Go.Proofs.Ytjmfffgddmnkmac
