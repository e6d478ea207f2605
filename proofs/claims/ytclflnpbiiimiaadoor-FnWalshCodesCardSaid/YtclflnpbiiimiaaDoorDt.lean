/- Draws of lists of float32's: a source that is turned leaves a list that is being made, and an append leaves the source. Condition: a source. -/
import Derived.Test.YtclflnpbiiimiaaDoorNu2
import Derived.Test.YtclflnpbiiimiaaDoorM38
import Derived.Test.YtclflnpbiiimiaaDoorM14
namespace Go.Proofs.YtclflnpbiiimiaaDoor
open Go Go.RowKit Ieee

theorem OwnF.trn {B p : Nat} {v : Value} {L : List Nat} {w w' : World} (h : OwnF B v L w) (o : Trn p w w') (hp : p < B) : OwnF B v L w' := by
  refine ⟨h.1, ?_⟩
  rcases h.2 with h2 | ⟨g, cap, cur, hv, hb, hg, r⟩
  · exact .inl h2
  · have hlt : g < w.heap.size := by
      rcases Nat.lt_or_ge g w.heap.size with h | h
      · exact h
      · rw [Array.getElem?_eq_none h] at hg; cases hg
    exact .inr ⟨g, cap, cur, hv, hb, by rw [o.block g hlt (by omega)]; exact hg, r⟩
theorem Src.kept {p B : Nat} {w w' : World} (s : Src p w) (k : Below B w w') (hp : p < B) : Src p w' := by
  obtain ⟨len, cap, pos, ad, x, hg, a, b, c, d, hc⟩ := s
  refine ⟨len, cap, pos, ad, x, by rw [k.block p hp]; exact hg, a, b, c, d, fun h0 => ?_⟩
  obtain ⟨cb, off, e, ne, lt, hb⟩ := hc h0
  refine ⟨cb, off, e, ne, by have := k.size; omega, fun i hi => ?_⟩
  rw [k.cell (p := ⟨cb, off + i, none⟩) (show cb < B by omega)]
  exact hb i hi
theorem Trn.kept {p : Nat} {a w w' : World} (h : Trn p a w) (k : Below a.heap.size w w') : Trn p a w' :=
  ⟨k.os.trans h.os, k.tape.trans h.tape, k.output.trans h.output, Nat.le_trans h.size k.size, fun i hi hne => (k.block i hi).trans (h.block i hi hne)⟩

/-- a list was drawn -/
def ListD (p N : Nat) (w : World) (e : Ending) (w' : World) : Prop := ∃ v L, e = .returned v ∧ L.length = N ∧ OwnF w.heap.size v L w' ∧ Src p w' ∧ Trn p w w'

set_option maxRecDepth 100000 in
set_option maxHeartbeats 1600000 in
theorem l10Draw_any (p N : Nat) (hN : N ≤ 64) (w : World) (hs : Src p w) : Calls Tryd.prog 42 #[.pointer (some ⟨p, 0, none⟩), .int .i64 (N : Int)] w (ListD p N w) := by
  have HP := Lib.hid hs.lt
  have S0 := Lib.hid (hs.alloc (.cells #[] 38))
  have O0 : Hid (OwnF w.heap.size (.slice (some ⟨w.heap.size, 0, none⟩) 0 0) [] (w.alloc (.cells #[] 38))) := Lib.hid (OwnF.empty _ _ (Nat.le_refl _))
  have T0 : Hid (Trn p w (w.alloc (.cells #[] 38))) := Lib.hid ((Trn.refl p w).alloc _)
  clear hs
  go_enter Tryd.func42, Tryd.ntmps42
  go_wp2_with fail
  refine (next_any p 5 _ S0.out).mono ?_
  rintro e w1 ⟨r, rfl, r0, r1, s1, o1⟩
  have S1 := Lib.hid s1
  have T1 := Lib.hid (T0.out.trans o1)
  have O1 := Lib.hid (O0.out.trn o1 HP.out)
  obtain ⟨wild, hwild⟩ : ∃ b, b = (r == 0) := ⟨_, rfl⟩
  clear s1 o1 S0 T0 O0
  go_wp2_with fail
  rw [← hwild]
  clear hwild r0 r1
  go_loopw [1, 5] (fun i v wr => ∃ k L, k ≤ N ∧ i = .int .i64 ((N - k : Nat) : Int) ∧ Hid (L.length = k) ∧ Hid (OwnF w.heap.size v L wr) ∧ Hid (Src p wr) ∧ Hid (Trn p w wr)) (fun i _ _ => (intOf i).toNat)
  case atStart => exact ⟨0, [], by omega, rfl, Lib.hid rfl, O1, S1, T1⟩
  case round =>
    clear S1 O1 T1
    obtain ⟨k, L, hk, rfl, HL, O, S, T⟩ := hrel
    obtain ⟨ad, cp, e0, _⟩ := O.out.came
    subst e0
    have hkl := HL.out
    rw [hkl] at O ⊢
    clear hkl
    by_cases hlt : k < N
    · have hpos : (0 : Int) < ((N - k : Nat) : Int) := by omega
      have hdk : decide (((N - k : Nat) : Int) > 0) = true := by simp; omega
      have hnext : IntKind.i64.wrap (((N - k : Nat) : Int) - 1) = ((N - (k + 1) : Nat) : Int) := (IntWalk.i64_in _ (by omega)).trans (by omega)
      go_wp2_with fail
      refine (next_any p 21 _ S.out).mono ?_
      rintro e w2 ⟨q, rfl, q0, q1, s2, o2⟩
      have hq : IntKind.i64.wrap (q - 10) = q - 10 := IntWalk.i64_in _ (by omega)
      have O2 := Lib.hid (O.out.trn o2 HP.out)
      have S2 := Lib.hid s2
      have T2 := Lib.hid (T.out.trans o2)
      clear s2 o2 O S T
      go_upto_if 20 with fail
      go_cut [7] (fun x wx => ∃ y, x = .float .f32 y ∧ Hid (OwnF w.heap.size (.slice ad k cp) L wx) ∧ Hid (Src p wx) ∧ Hid (Trn p w wx))
      case first =>
        cases wild
        · go_wp2_with fail
          go_meet
          exact ⟨_, rfl, O2, S2, T2⟩
        · go_wp2_with fail
          refine (drawNumber_any p _ S2.out).mono ?_
          rintro e w3 ⟨y, rfl, s3, o3⟩
          go_wp2_with fail
          go_meet
          exact ⟨_, rfl, Lib.hid (O2.out.trn o3 HP.out), Lib.hid s3, Lib.hid (T2.out.trans o3)⟩
      case rest =>
      obtain ⟨y, rfl, O3, S3, T3⟩ := hcut
      clear O2 S2 T2
      go_wp2_with fail
      refine (next_any p 200 _ S3.out).mono ?_
      rintro e w4 ⟨q2, rfl, q20, q21, s4, o4⟩
      have O4 := Lib.hid (O3.out.trn o4 HP.out)
      have S4 := Lib.hid s4
      have T4 := Lib.hid (T3.out.trans o4)
      clear s4 o4 O3 S3 T3
      go_upto_if 25 with fail
      go_cut [7] (fun x wx => ∃ y, x = .float .f32 y ∧ Hid (OwnF w.heap.size (.slice ad k cp) L wx) ∧ Hid (Src p wx) ∧ Hid (Trn p w wx))
      case first =>
        by_cases h0 : q2 = 0
        · subst h0
          go_wp2_with fail
          refine (float_any 2139095039 _ (by omega) (by omega)).mono ?_
          rintro e w5 ⟨z, rfl, b5⟩
          have O5 := Lib.hid (O4.out.trn (Below.toTrn b5 p) HP.out)
          have S5 := Lib.hid (S4.out.below b5)
          have T5 := Lib.hid (T4.out.trans (Below.toTrn b5 p))
          clear b5 O4 S4 T4
          go_wp2_with fail
          refine upon_gives (gives_arith _ _ (by decide) _ _ _ _ _) fun z2 w6 hl => ?_
          have O6 := Lib.hid (O5.out.trn (Like.own hl p) HP.out)
          have S6 := Lib.hid (Like.src hl S5.out)
          have T6 := Lib.hid (T5.out.trans (Like.own hl p))
          go_wp2_with fail
          go_meet
          exact ⟨_, rfl, O6, S6, T6⟩
        · have hq2 : (q2 == 0) = false := by simpa using h0
          go_wp2_with fail
          go_meet
          exact ⟨_, rfl, O4, S4, T4⟩
      case rest =>
      obtain ⟨y2, rfl, O5, S5, T5⟩ := hcut
      clear O4 S4 T4
      have HLN : Hid (L.length ≤ 1048576) := Lib.hid (by rw [HL.out]; omega)
      go_wp2_with (at_builtin; refine wpList_pushF rfl (.tmp 28) (.tmp 30) rfl w.heap.size _ _ y2 rfl rfl O5.out HLN.out T5.out.size ?_)
      intro v' w6 O6 B6
      have O7 := Lib.hid O6
      have S7 := Lib.hid (S5.out.kept B6 HP.out)
      have T7 := Lib.hid (T5.out.kept B6)
      clear O6 B6 O5 S5 T5
      go_wp2_with fail
      exact ⟨⟨k + 1, L ++ [y2], by omega, by go_num, Lib.hid (by rw [List.length_append, HL.out]; rfl), O7, S7, T7⟩, by simp [intOf]; omega⟩
    · obtain rfl : k = N := by omega
      have hz : ((k - k : Nat) : Int) = 0 := by omega
      rw [hz]
      go_wp2_with fail
      go_ret
      exact ⟨_, L, rfl, HL.out, O.out, S.out, T.out⟩

end Go.Proofs.YtclflnpbiiimiaaDoor
