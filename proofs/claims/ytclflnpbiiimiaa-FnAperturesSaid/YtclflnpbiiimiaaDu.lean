/- The draws of chapter 10 that the law of apertures asks for; the law's own lists of small whole numbers and its comparison of lists. Condition: a code that can be read. -/
import Derived.Test.YtclflnpbiiimiaaDt
import Derived.Test.YtclflnpbiiimiaaRo2
import Derived.Test.YtclflnpbiiimiaaWn
namespace Go.Proofs.Ytclflnpbiiimiaa
open Go Go.RowKit Ieee

/-- a list of at most 64 numbers -/
def ListW (w : World) (e : Ending) (w' : World) : Prop := ∃ v L, e = .returned v ∧ L.length ≤ 64 ∧ OwnF w.heap.size v L w' ∧ Below w.heap.size w w'

set_option maxRecDepth 100000 in
set_option maxHeartbeats 800000 in
theorem drawLc_any (ad : Option Addr) (len cap : Nat) (w : World) (hc : Code ad len w) : Calls Try.prog 5 #[.slice ad len cap] w fun e w' => ∃ p : Int, e = .returned (.int .i64 p) ∧ Below w.heap.size w w' := by
  go_enter Try.func5, Try.ntmps5
  go_wp2_with fail
  refine (from_any ad len cap w hc).mono ?_
  rintro e w1 ⟨p, rfl, hp, hp2, s1, b1⟩
  go_wp2_with fail
  refine (pick_lit p [3, 7, 11, 19, 23, 31, 5] w1 s1 (by simp) (by simp)).mono ?_
  rintro e w2 ⟨n, hn, rfl, s2, o2⟩
  go_wp2_with fail
  go_ret
  exact ⟨n, rfl, o2.after b1 hp (Nat.le_refl _)⟩

set_option maxRecDepth 100000 in
set_option maxHeartbeats 800000 in
theorem drawSh_any (ad : Option Addr) (len cap : Nat) (w : World) (hc : Code ad len w) : Calls Try.prog 9 #[.slice ad len cap] w (ListW w) := by
  go_enter Try.func9, Try.ntmps9
  go_wp2_with fail
  refine (from_any ad len cap w hc).mono ?_
  rintro e w1 ⟨p, rfl, hp, hp2, s1, b1⟩
  go_wp2_with fail
  refine (pick_lit p [3, 7, 11, 19, 23, 31, 5] w1 s1 (by simp) (by simp)).mono ?_
  rintro e w2 ⟨n, hn, rfl, s2, o2⟩
  have hn' : n = 3 ∨ n = 7 ∨ n = 11 ∨ n = 19 ∨ n = 23 ∨ n = 31 ∨ n = 5 := by simpa using hn
  obtain ⟨m, rfl⟩ : ∃ m : Nat, n = m := ⟨n.toNat, by omega⟩
  have hm : m ≤ 64 := by omega
  clear hn hn'
  go_wp2_with fail
  refine (l10Draw_any p m hm w2 s2).mono ?_
  rintro e w3 ⟨v, L, rfl, hL, o3, s3, t3⟩
  obtain ⟨a, c, rfl, _⟩ := o3.came
  rw [hL] at o3 ⊢
  have HL := Lib.hid hL
  clear hL
  have O3 := Lib.hid o3
  have B3 := Lib.hid ((o2.trans t3).after b1 hp (Nat.le_refl _))
  have HS : Hid (w.heap.size ≤ w2.heap.size) := Lib.hid (Nat.le_trans b1.size o2.size)
  clear o3 t3 o2 b1
  go_wp2_with fail
  go_ret
  exact ⟨_, L, rfl, by rw [HL.out]; exact hm, O3.out.mono HS.out, B3.out⟩

set_option maxRecDepth 100000 in
theorem drawDc_any (ad : Option Addr) (len cap : Nat) (w : World) (hc : Code ad len w) : Calls Try.prog 12 #[.slice ad len cap] w (ListW w) := by
  go_enter Try.func12, Try.ntmps12
  go_wp2_with fail
  refine (drawSh_any ad len cap w hc).mono ?_
  rintro e w3 ⟨v, L, rfl, hL, o3, b3⟩
  obtain ⟨a, c, rfl, _⟩ := o3.came
  have O3 := Lib.hid o3
  have B3 := Lib.hid b3
  clear o3 b3
  go_wp2_with fail
  go_ret
  exact ⟨_, L, rfl, hL, O3.out, B3.out⟩

set_option maxRecDepth 100000 in
set_option maxHeartbeats 800000 in
theorem drawCl_any (ad : Option Addr) (len cap : Nat) (w : World) (hc : Code ad len w) : Calls Try.prog 15 #[.slice ad len cap] w fun e w' => ∃ v u A B, e = .returned (.tuple #[v, u]) ∧ A.length ≤ 64 ∧ B.length ≤ 64 ∧ OwnF w.heap.size v A w' ∧ OwnF w.heap.size u B w' ∧ Below w.heap.size w w' := by
  go_enter Try.func15, Try.ntmps15
  go_wp2_with fail
  refine (from_any ad len cap w hc).mono ?_
  rintro e w1 ⟨p, rfl, hp, hp2, s1, b1⟩
  go_wp2_with fail
  refine (next_any p 20 w1 s1).mono ?_
  rintro e w2 ⟨r, rfl, r0, r1, s2, o2⟩
  obtain ⟨m, rfl⟩ : ∃ m : Nat, r = m := ⟨r.toNat, by omega⟩
  have hm : m ≤ 20 := by omega
  have hw1 : IntKind.i64.wrap (1 + (m : Int)) = ((m + 1 : Nat) : Int) := (IntWalk.i64_in _ (by omega)).trans (by omega)
  have S2 := Lib.hid s2
  have O2 := Lib.hid o2
  clear s1 s2 o2
  go_wp2_with fail
  refine (l10Draw_any p (m + 1) (by omega) w2 S2.out).mono ?_
  rintro e w3 ⟨v, L, rfl, hL, o3, s3, t3⟩
  obtain ⟨a, c, rfl, _⟩ := o3.came
  rw [hL] at o3 ⊢
  have HL := Lib.hid hL
  clear hL
  have O3 := Lib.hid o3
  have S3 := Lib.hid s3
  have T3 := Lib.hid (O2.out.trans t3)
  have HS : Hid (w.heap.size ≤ w2.heap.size) := Lib.hid (Nat.le_trans b1.size O2.out.size)
  have HP2 : Hid (p < w2.heap.size) := Lib.hid S2.out.lt
  clear o3 s3 t3 S2 O2
  go_wp2_with fail
  refine (next_any p 16 w3 S3.out).mono ?_
  rintro e w4 ⟨q, rfl, q0, q1, s4, o4⟩
  obtain ⟨k, rfl⟩ : ∃ k : Nat, q = k := ⟨q.toNat, by omega⟩
  have hk : k ≤ 16 := by omega
  have hw2 : IntKind.i64.wrap (((m + 1 : Nat) : Int) + (k : Int) / 15) = ((m + 1 + k / 15 : Nat) : Int) := (IntWalk.i64_in _ (by omega)).trans (by omega)
  have O4 := Lib.hid (O3.out.trn o4 HP2.out)
  have S4 := Lib.hid s4
  have T4 := Lib.hid (T3.out.trans o4)
  have hm2 : m + 1 + k / 15 ≤ 64 := by omega
  clear s4 o4 O3 S3 T3
  go_wp2_with fail
  refine (l10Draw_any p (m + 1 + k / 15) hm2 w4 S4.out).mono ?_
  rintro e w5 ⟨u, M, rfl, hM, o5, s5, t5⟩
  obtain ⟨a2, c2, rfl, _⟩ := o5.came
  rw [hM] at o5 ⊢
  have HM := Lib.hid hM
  clear hM
  have OA := Lib.hid (O4.out.trn t5 HP2.out)
  have OB := Lib.hid o5
  have HS4 : Hid (w.heap.size ≤ w4.heap.size) := Lib.hid (Nat.le_trans b1.size T4.out.size)
  have B5 := Lib.hid ((T4.out.trans t5).after b1 hp (Nat.le_refl _))
  clear o5 s5 t5 O4 S4 T4 b1
  go_wp2_with fail
  go_ret2
  exact ⟨_, _, L, M, rfl, by rw [HL.out]; omega, by rw [HM.out]; exact hm2, OA.out.mono HS.out, OB.out.mono HS4.out, B5.out⟩

theorem drewN_two (w : World) (a b : Nat) : (w.drewN a).drewN b = w.drewN (a + b) := by
  unfold World.drewN
  simp [Nat.add_assoc]
/-- the law's comparison of two lists of numbers that are equal -/
theorem lists9_yes (a1 a2 : Option Addr) (n c1 c2 : Nat) (A B : List Nat) (w : World) (h1 : CameF a1 n A w) (h2 : CameF a2 n B w) (hn : n ≤ 1048576)
    (he : ∀ i, i < n → (FloatKind.f32.format.order (A.getD i 0) (B.getD i 0) == some .eq) = true) :
    Calls Try.prog 8 #[.slice a1 n c1, .slice a2 n c2] w fun e w' => e = .returned (.bool true) ∧ ∃ d, w' = w.drewN d := by
  have H1 := Lib.hid h1
  have H2 := Lib.hid h2
  have HE := Lib.hid he
  clear h1 h2 he
  have hnn : ((n : Int) != n) = false := by simp
  go_enter Try.func8, Try.ntmps8
  go_wp2
  go_loopw [5] (fun i wr => ∃ k d : Nat, k ≤ n ∧ i = .int .i64 k ∧ wr = w.drewN d) (fun i _ => n - (intOf i).toNat)
  case atStart => exact ⟨0, 0, by omega, rfl, rfl⟩
  case round =>
    obtain ⟨k, d, hk, rfl, hwr⟩ := hrel
    by_cases hlt : k < n
    · have hdk : decide ((k : Int) < (n : Int)) = true := by simp; omega
      obtain ⟨b1, o1, rfl, hb1, hc1⟩ := H1.out.2 (by omega)
      obtain ⟨b2, o2, rfl, hb2, hc2⟩ := H2.out.2 (by omega)
      have p1 : wr.cell? ⟨b1, o1 + k, none⟩ = some (.float .f32 (A.getD k 0)) := by rw [hwr]; exact hc1 k hlt
      have p2 : wr.cell? ⟨b2, o2 + k, none⟩ = some (.float .f32 (B.getD k 0)) := by rw [hwr]; exact hc2 k hlt
      have hx : (FloatKind.f32.format.order (A.getD k 0) (B.getD k 0) != some .eq) = false := by
        have := HE.out k hlt
        simpa using this
      clear hb1 hc1 hb2 hc2
      generalize A.getD k 0 = x at *
      generalize B.getD k 0 = y at *
      have HW := Lib.hid hwr
      clear hwr
      go_wp2_with fail
      go_quiet (fail)
      go_wp2_with fail
      exact ⟨⟨k + 1, d + nq, by omega, by go_num, by rw [HW.out]; exact drewN_two w d nq⟩, by simp [intOf]; omega⟩
    · obtain rfl : k = n := by omega
      go_wp2
      go_ret
      exact ⟨rfl, d, by first | exact hwr | rfl⟩

theorem Dic.kept {p B : Nat} {w w' : World} (s : Dic p w) (k : Below B w w') (hp : p < B) : Dic p w' := by
  obtain ⟨len, cap, pos, ad, x, hg, a, b, c, d, hc⟩ := s
  refine ⟨len, cap, pos, ad, x, by rw [k.block p hp]; exact hg, a, b, c, d, fun h0 => ?_⟩
  obtain ⟨cb, off, e, ne, lt, hb⟩ := hc h0
  refine ⟨cb, off, e, ne, by have := k.size; omega, fun i hi => ?_⟩
  rw [k.cell (p := ⟨cb, off + i, none⟩) (show cb < B by omega)]
  exact hb i hi
theorem Dic.lt {p : Nat} {w : World} (h : Dic p w) : p < w.heap.size := by
  obtain ⟨_, _, _, _, _, hg, _⟩ := h
  by_cases hl : p < w.heap.size
  · exact hl
  · rw [Array.getElem?_eq_none (by omega)] at hg; cases hg
theorem Dic.alloc {p : Nat} {w : World} (h : Dic p w) (o : Obj) : Dic p (w.alloc o) := h.kept ((Below.refl w.heap.size w).alloc (Nat.le_refl _) o) h.lt

/-- small whole numbers -/
def Small (Z : Nat → Int) (L : List Nat) : Prop := ∀ i, i < L.length → Wh (Z i) (L.getD i 0) ∧ (Z i).natAbs ≤ 10

set_option maxRecDepth 100000 in
set_option maxHeartbeats 1600000 in
theorem numbers9_any (p N : Nat) (hN : N ≤ 64) (w : World) (hs : Dic p w) : Calls Try.prog 22 #[.pointer (some ⟨p, 0, none⟩), .int .i64 (N : Int)] w fun e w' =>
    ∃ v L Z, e = .returned v ∧ L.length = N ∧ Small Z L ∧ OwnF w.heap.size v L w' ∧ Dic p w' ∧ Trn p w w' := by
  have HP := Lib.hid hs.lt
  have S1 := Lib.hid (hs.alloc (.cells #[] 40))
  have O1 : Hid (OwnF w.heap.size (.slice (some ⟨w.heap.size, 0, none⟩) 0 0) [] (w.alloc (.cells #[] 40))) := Lib.hid (OwnF.empty _ _ (Nat.le_refl _))
  have T1 : Hid (Trn p w (w.alloc (.cells #[] 40))) := Lib.hid ((Trn.refl p w).alloc _)
  clear hs
  go_enter Try.func22, Try.ntmps22
  go_wp2_with fail
  go_loopw [1, 5] (fun i v wr => ∃ k L Z, k ≤ N ∧ i = .int .i64 ((N - k : Nat) : Int) ∧ Hid (L.length = k) ∧ Hid (Small Z L) ∧ Hid (OwnF w.heap.size v L wr) ∧ Hid (Dic p wr) ∧ Hid (Trn p w wr)) (fun i _ _ => (intOf i).toNat)
  case atStart => exact ⟨0, [], fun _ => 0, by omega, rfl, Lib.hid rfl, Lib.hid (fun i hi => by simp at hi), O1, S1, T1⟩
  case round =>
    clear S1 O1 T1
    obtain ⟨k, L, Z, hk, rfl, HL, HZ, O, S, T⟩ := hrel
    obtain ⟨ad, cp, e0, _⟩ := O.out.came
    subst e0
    have hkl := HL.out
    rw [hkl] at O ⊢
    clear hkl
    by_cases hlt : k < N
    · have hpos : (0 : Int) < ((N - k : Nat) : Int) := by omega
      have hdk : decide (((N - k : Nat) : Int) > 0) = true := by simp; omega
      have hnext : IntKind.i64.wrap (((N - k : Nat) : Int) - 1) = ((N - (k + 1) : Nat) : Int) := (IntWalk.i64_in _ (by omega)).trans (by omega)
      go_wp2_with fail
      refine (below_any p 21 _ S.out).mono ?_
      rintro e w2 ⟨q, rfl, q0, q1, s2, o2⟩
      have hq : IntKind.i64.wrap (q - 10) = q - 10 := IntWalk.i64_in _ (by omega)
      have O2 := Lib.hid (O.out.trn o2 HP.out)
      have S2 := Lib.hid s2
      have T2 := Lib.hid (T.out.trans o2)
      have HW := Lib.hid (wh_int (q - 10) (by omega))
      have HQ : Hid ((q - 10).natAbs ≤ 10) := Lib.hid (by omega)
      have HLN : Hid (L.length ≤ 1048576) := Lib.hid (by rw [HL.out]; omega)
      clear s2 o2 O S T
      go_wp2_with (at_builtin; refine wpList_pushF rfl (.tmp 11) (.tmp 16) rfl w.heap.size _ _ (floatOfInt .f32 (q - 10)) rfl rfl O2.out HLN.out T2.out.size ?_)
      intro v' w6 O6 B6
      have O7 := Lib.hid O6
      have S7 := Lib.hid (S2.out.kept B6 HP.out)
      have T7 := Lib.hid (T2.out.kept B6)
      have HZ2 : Hid (Small (fun i => if i < k then Z i else q - 10) (L ++ [floatOfInt .f32 (q - 10)])) := Lib.hid fun i hi => by
        rw [List.length_append, HL.out] at hi
        rw [List.getD_eq_getElem?_getD]
        dsimp only
        by_cases h2 : i < k
        · rw [if_pos h2, List.getElem?_append_left (by rw [HL.out]; exact h2), ← List.getD_eq_getElem?_getD]
          exact HZ.out i (by rw [HL.out]; exact h2)
        · have : i = k := by simp at hi; omega
          subst this
          rw [if_neg h2, List.getElem?_append_right (by rw [HL.out]; omega), HL.out]
          simpa using ⟨HW.out, HQ.out⟩
      clear O6 B6 O2 S2 T2
      go_wp2_with fail
      exact ⟨⟨k + 1, L ++ [floatOfInt .f32 (q - 10)], _, by omega, by go_num, Lib.hid (by rw [List.length_append, HL.out]; rfl), HZ2, O7, S7, T7⟩, by simp [intOf]; omega⟩
    · obtain rfl : k = N := by omega
      have hz : ((k - k : Nat) : Int) = 0 := by omega
      rw [hz]
      go_wp2_with fail
      go_ret
      exact ⟨_, L, Z, rfl, HL.out, HZ.out, O.out, S.out, T.out⟩

end Go.Proofs.Ytclflnpbiiimiaa
