/- The draw of a list that may be balanced. Condition: a code that can be read. -/
import Derived.Test.YtclflnpbiiimiaaDu
namespace Go.Proofs.Ytclflnpbiiimiaa
open Go Go.RowKit Ieee

set_option maxRecDepth 100000 in
set_option maxHeartbeats 1600000 in
theorem drawIb_any (ad : Option Addr) (len cap : Nat) (w : World) (hc : Code ad len w) : Calls Try.prog 18 #[.slice ad len cap] w (ListW w) := by
  go_enter Try.func18, Try.ntmps18
  go_wp2_with fail
  refine (from_any ad len cap w hc).mono ?_
  rintro e w1 ⟨p, rfl, hp, hp2, s1, b1⟩
  go_wp2_with fail
  refine (next_any p 4 w1 s1).mono ?_
  rintro e w2 ⟨r, rfl, r0, r1, s2, o2⟩
  have B2 := Lib.hid (o2.after b1 hp (Nat.le_refl _))
  have S2 := Lib.hid s2
  have HP : Hid (w.heap.size ≤ p) := Lib.hid hp
  clear s1 s2 o2 b1
  by_cases h0 : r = 0
  · subst h0
    go_wp2_with fail
    refine (pick_lit p [3, 7, 11, 19] w2 S2.out (by simp) (by simp)).mono ?_
    rintro e w3 ⟨n, hn, rfl, s3, o3⟩
    have hn' : n = 3 ∨ n = 7 ∨ n = 11 ∨ n = 19 := by simpa using hn
    obtain ⟨m, rfl⟩ : ∃ m : Nat, n = m := ⟨n.toNat, by omega⟩
    have hm : m ≤ 31 := by omega
    have B3 := Lib.hid (o3.after B2.out HP.out (Nat.le_refl _))
    clear hn hn' s3 o3
    go_wp2_with fail
    refine (l10Legendre_any m hm _).mono ?_
    rintro e w4 ⟨v, rfl, o4, b4⟩
    obtain ⟨a, c, rfl, _⟩ := o4.came
    have O4 := Lib.hid (o4.mono B3.out.size)
    have B4 := Lib.hid (B3.out.trans (b4.mono B3.out.size))
    have HL : Hid ((legs m).length ≤ 64) := Lib.hid (by rw [legs_len]; omega)
    clear o4 b4
    go_wp2_with fail
    go_ret
    exact ⟨_, _, rfl, HL.out, O4.out, B4.out⟩
  by_cases h1 : r = 1
  · subst h1
    go_wp2_with fail
    refine (pick_lit p [2, 4, 8] w2 S2.out (by simp) (by simp)).mono ?_
    rintro e w3 ⟨n, hn, rfl, s3, o3⟩
    have hn' : n = 2 ∨ n = 4 ∨ n = 8 := by simpa using hn
    obtain ⟨m, rfl⟩ : ∃ m : Nat, n = m := ⟨n.toNat, by omega⟩
    have hm : 2 ≤ m ∧ m ≤ 8 := by omega
    have B3 := Lib.hid (o3.after B2.out HP.out (Nat.le_refl _))
    clear hn hn' o3
    go_wp2_with fail
    refine (next_any p (m : Int) w3 s3).mono ?_
    rintro e w4 ⟨q, rfl, q0, q1, s4, o4⟩
    obtain ⟨k, rfl⟩ : ∃ k : Nat, q = k := ⟨q.toNat, by omega⟩
    have hk : k < 64 := by omega
    have B4 := Lib.hid (o4.after B3.out HP.out (Nat.le_refl _))
    clear s3 s4 o4
    go_wp2_with fail
    refine (l10Walsh_any m k (by omega) hk _).mono ?_
    rintro e w5 ⟨v, rfl, o5, b5⟩
    obtain ⟨a, c, rfl, _⟩ := o5.came
    have O5 := Lib.hid (o5.mono B4.out.size)
    have B5 := Lib.hid (B4.out.trans (b5.mono B4.out.size))
    have HL : Hid ((walsh m k).length ≤ 64) := Lib.hid (by rw [walsh_len]; omega)
    clear o5 b5
    go_wp2_with fail
    go_ret
    exact ⟨_, _, rfl, HL.out, O5.out, B5.out⟩
  by_cases h2 : r = 2
  · subst h2
    go_wp2_with fail
    have SA := Lib.hid (S2.out.alloc (.cells #[] 40))
    have BA := Lib.hid (B2.out.alloc B2.out.size (.cells #[] 40))
    have OA : Hid (OwnF w2.heap.size (.slice (some ⟨w2.heap.size, 0, none⟩) 0 0) [] (w2.alloc (.cells #[] 40))) := Lib.hid (OwnF.empty _ _ (Nat.le_refl _))
    have HP2 : Hid (p < w2.heap.size) := Lib.hid S2.out.lt
    refine (next_any p 7 _ SA.out).mono ?_
    rintro e w3 ⟨q, rfl, q0, q1, s3, o3⟩
    obtain ⟨k, rfl⟩ : ∃ k : Nat, q = k := ⟨q.toNat, by omega⟩
    have hk : k ≤ 7 := by omega
    have hw1 : IntKind.i64.wrap (1 + (k : Int)) = ((k + 1 : Nat) : Int) := (IntWalk.i64_in _ (by omega)).trans (by omega)
    have B3 := Lib.hid (o3.after BA.out HP.out (Nat.le_refl _))
    have O3 := Lib.hid (OA.out.trn o3 HP2.out)
    have S3 := Lib.hid s3
    have HS2 : Hid (w.heap.size ≤ w2.heap.size) := Lib.hid B2.out.size
    have HS3 : Hid (w2.heap.size ≤ w3.heap.size) := Lib.hid (by have := o3.size; rw [World.size_alloc] at this; omega)
    clear s3 o3 SA BA OA B2 S2
    go_wp2_with fail
    generalize w2.heap.size = B at *
    go_loopw [6, 5] (fun i v wr => ∃ (j : Nat) (L : List Nat), j ≤ k + 1 ∧ i = .int .i64 ((k + 1 - j : Nat) : Int) ∧ Hid (L.length = j) ∧ Hid (OwnF B v L wr) ∧ Hid (Src p wr) ∧ Hid (Below w.heap.size w wr) ∧ B ≤ wr.heap.size) (fun i _ _ => (intOf i).toNat)
    case atStart => exact ⟨0, [], by omega, by simp, Lib.hid rfl, O3, S3, B3, HS3.out⟩
    case round =>
      clear O3 S3 B3 HS3
      obtain ⟨j, L, hj, rfl, HL, O, S, BW, hsz⟩ := hrel
      obtain ⟨ad, cp, e0, _⟩ := O.out.came
      subst e0
      have hkl := HL.out
      rw [hkl] at O ⊢
      clear hkl
      by_cases hlt : j < k + 1
      · have hpos : (0 : Int) < ((k + 1 - j : Nat) : Int) := by omega
        have hdk : decide (((k + 1 - j : Nat) : Int) > 0) = true := by simp; omega
        have hnext : IntKind.i64.wrap (((k + 1 - j : Nat) : Int) - 1) = ((k + 1 - (j + 1) : Nat) : Int) := (IntWalk.i64_in _ (by omega)).trans (by omega)
        go_wp2_with fail
        refine (next_any p 2 _ S.out).mono ?_
        rintro e w4 ⟨q, rfl, q0, q1, s4, o4⟩
        have hq : wrap64 (2 * q) = 2 * q := by unfold wrap64; omega
        have hq2 : IntKind.i64.wrap (2 * q - 1) = 2 * q - 1 := IntWalk.i64_in _ (by omega)
        have O4 := Lib.hid (O.out.trn o4 HP2.out)
        have S4 := Lib.hid s4
        have B4 := Lib.hid (o4.after BW.out HP.out (Nat.le_refl _))
        have HS4 : Hid (B ≤ w4.heap.size) := Lib.hid (Nat.le_trans hsz o4.size)
        have HLN : Hid (L.length ≤ 1048576) := Lib.hid (by rw [HL.out]; omega)
        clear s4 o4 O S BW
        go_wp2_with (at_builtin; refine wpList_pushF rfl (.tmp 37) (.tmp 43) rfl B _ _ (floatOfInt .f32 (2 * q - 1)) rfl rfl O4.out HLN.out HS4.out ?_)
        intro v' w6 O6 B6
        have O7 := Lib.hid O6
        have S7 := Lib.hid (S4.out.kept B6 HP2.out)
        have B7 := Lib.hid (B4.out.trans (B6.mono HS2.out))
        have hs7 : B ≤ w6.heap.size := Nat.le_trans HS4.out B6.size
        clear O6 B6 O4 S4 B4
        go_wp2_with fail
        exact ⟨⟨j + 1, L ++ [floatOfInt .f32 (2 * q - 1)], by omega, by go_num, Lib.hid (by rw [List.length_append, HL.out]; rfl), O7, S7, B7, hs7⟩, by simp [intOf]; omega⟩
      · obtain rfl : j = k + 1 := by omega
        have hz : ((k + 1 - (k + 1) : Nat) : Int) = 0 := by omega
        rw [hz]
        go_wp2_with fail
        go_ret
        exact ⟨_, L, rfl, by rw [HL.out]; omega, O.out.mono HS2.out, BW.out⟩
  · go_wp2_with fail
    refine (next_any p 6 w2 S2.out).mono ?_
    rintro e w3 ⟨q, rfl, q0, q1, s3, o3⟩
    obtain ⟨k, rfl⟩ : ∃ k : Nat, q = k := ⟨q.toNat, by omega⟩
    have hk : k ≤ 64 := by omega
    have B3 := Lib.hid (o3.after B2.out HP.out (Nat.le_refl _))
    clear o3
    go_wp2_with fail
    refine (l10Draw_any p k hk w3 s3).mono ?_
    rintro e w4 ⟨v, L, rfl, hL, o4, s4, t4⟩
    obtain ⟨a, c, rfl, _⟩ := o4.came
    rw [hL] at o4 ⊢
    have HL := Lib.hid hL
    clear hL
    have O4 := Lib.hid (o4.mono B3.out.size)
    have B4 := Lib.hid (t4.after B3.out HP.out (Nat.le_refl _))
    clear o4 s4 t4
    go_wp2_with fail
    go_ret
    exact ⟨_, L, rfl, by rw [HL.out]; exact hk, O4.out, B4.out⟩

end Go.Proofs.Ytclflnpbiiimiaa
