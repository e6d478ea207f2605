/- The program's flood: what lies in memory, and the visit of a cell. Condition: a place of the map. -/
import Derived.Test.YtjmfffgddmnkmacM21
import Derived.Test.YtjmfffgddmnkmacUg
import Derived.Deep.LoopGhost
import Derived.BigRegion
namespace Go.Proofs.Ytjmfffgddmnkmac
open Go Go.RowKit
attribute [local go_sem ↓] Go.wp_at_zero Go.wp_at_succ

theorem hop_skip {m a i : Nat} {L : List Int} {s : FS} (h : (insTo m a i && s.U.getD (plcTo m a i) false) = false) : hop m L a s i = s := by unfold hop; rw [h]; rfl
theorem hop_yes {m a i : Nat} {L : List Int} {s : FS} (h : (insTo m a i && s.U.getD (plcTo m a i) false) = true) : hop m L a s i = ⟨s.H.set (plcTo m a i) (s.H.getD a 0 + lessH (L.getD a 0) (L.getD (plcTo m a i) 0)), s.U.set (plcTo m a i) false, s.Q ++ [((plcTo m a i : Nat) : Int)]⟩ := by unfold hop; rw [if_pos h]
theorem hop_len (m : Nat) (L : List Int) (a i : Nat) (s : FS) : s.Q.length ≤ (hop m L a s i).Q.length := by
  unfold hop
  split
  · rw [List.length_append]; omega
  · exact Nat.le_refl _
theorem hops_len (m : Nat) (L : List Int) (a : Nat) (s : FS) : ∀ i, s.Q.length ≤ (hops m L a s i).Q.length
  | 0 => Nat.le_refl _
  | i + 1 => Nat.le_trans (hops_len m L a s i) (hop_len m L a i _)

/-- the flood lies in block p: map, heights, side, cells that are open and not met, queue -/
def FlM (B p b g m N cap : Nat) (s : FS) (d : Nat) (w : World) : Prop :=
  ∃ qv cs, w.heap[p]? = some (.cells cs 78 (0, 0)) ∧ cs.size = 68 ∧ cs[0]? = some (.slice (some ⟨b, 0, none⟩) N cap) ∧ cs[1]? = some (.slice (some ⟨g, 0, none⟩) N N) ∧ cs[2]? = some (.int .i64 m) ∧
    (∀ i, i < 64 → cs[3 + i]? = some (.bool (s.U.getD i false))) ∧ cs[67]? = some qv ∧ Qu B qv (s.Q.drop d) w ∧ qv.ownBlock ≠ some p ∧ qv.ownBlock ≠ some g ∧ Own B (.slice (some ⟨g, 0, none⟩) N N) s.H w ∧ p ≠ g ∧ B ≤ p ∧ B ≤ g

theorem FlM.below {B p b g m N cap d C : Nat} {s : FS} {w u : World} (h : FlM B p b g m N cap s d w) (k : Below C w u) (hC : w.heap.size ≤ C) : FlM B p b g m N cap s d u := by
  obtain ⟨qv, cs, h0, h1, h2, h3, h4, h5, h6, h7, h8, h9, h10, h11⟩ := h
  exact ⟨qv, cs, by rw [k.block p (by have := (Array.getElem?_eq_some_iff.1 h0).1; omega)]; exact h0, h1, h2, h3, h4, h5, h6, h7.below k hC, h8, h9, h10.below k hC, h11⟩

theorem Qu.shape {B : Nat} {v : Value} {L : List Int} {w : World} (h : Qu B v L w) : ∃ a n c, v = .slice a n c := by
  obtain ⟨g, off, cap, cur, rfl, _⟩ := h
  exact ⟨_, _, _, rfl⟩

theorem flm_hop {B p b g m N cap d a i P : Nat} {L : List Int} {t : FS} {cs : Array Value} {v' : Value} {W : World} (hP : plcTo m a i = P) (hc : (insTo m a i && t.U.getD P false) = true) (hd : d ≤ t.Q.length) (hP64 : P < 64) (hul : t.U.length = 64)
    (h0 : W.heap[p]? = some (.cells ((cs.setIfInBounds (3 + P) (.bool false)).setIfInBounds 67 v') 78 (0, 0))) (h1 : cs.size = 68) (h2 : cs[0]? = some (.slice (some ⟨b, 0, none⟩) N cap)) (h3 : cs[1]? = some (.slice (some ⟨g, 0, none⟩) N N)) (h4 : cs[2]? = some (.int .i64 m))
    (h5 : ∀ i, i < 64 → cs[3 + i]? = some (.bool (t.U.getD i false))) (h7 : Qu B v' (t.Q.drop d ++ [(P : Int)]) W) (h8 : v'.ownBlock ≠ some p) (h9 : v'.ownBlock ≠ some g)
    (h10 : Own B (.slice (some ⟨g, 0, none⟩) N N) (t.H.set P (t.H.getD a 0 + lessH (L.getD a 0) (L.getD P 0))) W) (h11 : p ≠ g) (h12 : B ≤ p) (h13 : B ≤ g) : FlM B p b g m N cap (hop m L a t i) d W := by
  rw [hop_yes (by rw [hP]; exact hc), hP]
  refine ⟨v', _, h0, by rw [Array.size_setIfInBounds, Array.size_setIfInBounds]; exact h1, ?_, ?_, ?_, ?_, ?_, ?_, h8, h9, h10, h11, h12, h13⟩
  · rw [Array.getElem?_setIfInBounds_ne (by omega), Array.getElem?_setIfInBounds_ne (by omega)]; exact h2
  · rw [Array.getElem?_setIfInBounds_ne (by omega), Array.getElem?_setIfInBounds_ne (by omega)]; exact h3
  · rw [Array.getElem?_setIfInBounds_ne (by omega), Array.getElem?_setIfInBounds_ne (by omega)]; exact h4
  · intro j hj
    rw [Array.getElem?_setIfInBounds_ne (by omega)]
    by_cases e : P = j
    · rw [← e, Array.getElem?_setIfInBounds_self_of_lt (by omega), getD_set_same _ _ _ _ (by omega)]
    · rw [Array.getElem?_setIfInBounds_ne (by omega), getD_set_ne _ _ _ _ _ e]; exact h5 j hj
  · rw [Array.getElem?_setIfInBounds_self_of_lt (by rw [Array.size_setIfInBounds]; omega)]
  · show Qu B v' ((t.Q ++ [(P : Int)]).drop d) W
    rw [List.drop_append_of_le_length hd]
    exact h7

theorem ways_0 (w : World) : (Instr.index 108 (.agg #[.int .i64 0, .int .i64 1, .int .i64 1, .int .i64 0, .int .i64 0, .int .i64 (-1), .int .i64 (-1), .int .i64 0]) (.int .i64 0)).run Try.prog w = .ok (.agg #[.int .i64 0, .int .i64 1]) w := by kernel_rfl
theorem ways_1 (w : World) : (Instr.index 108 (.agg #[.int .i64 0, .int .i64 1, .int .i64 1, .int .i64 0, .int .i64 0, .int .i64 (-1), .int .i64 (-1), .int .i64 0]) (.int .i64 1)).run Try.prog w = .ok (.agg #[.int .i64 1, .int .i64 0]) w := by kernel_rfl
theorem ways_2 (w : World) : (Instr.index 108 (.agg #[.int .i64 0, .int .i64 1, .int .i64 1, .int .i64 0, .int .i64 0, .int .i64 (-1), .int .i64 (-1), .int .i64 0]) (.int .i64 2)).run Try.prog w = .ok (.agg #[.int .i64 0, .int .i64 (-1)]) w := by kernel_rfl
theorem ways_3 (w : World) : (Instr.index 108 (.agg #[.int .i64 0, .int .i64 1, .int .i64 1, .int .i64 0, .int .i64 0, .int .i64 (-1), .int .i64 (-1), .int .i64 0]) (.int .i64 3)).run Try.prog w = .ok (.agg #[.int .i64 (-1), .int .i64 0]) w := by kernel_rfl
theorem ways_at (i : Nat) (hi : i < 4) (w : World) : (Instr.index 108 (.agg #[.int .i64 0, .int .i64 1, .int .i64 1, .int .i64 0, .int .i64 0, .int .i64 (-1), .int .i64 (-1), .int .i64 0]) (.int .i64 (i : Int))).run Try.prog w = .ok (.agg #[.int .i64 (wayY i), .int .i64 (wayX i)]) w := by
  obtain rfl | rfl | rfl | rfl : i = 0 ∨ i = 1 ∨ i = 2 ∨ i = 3 := by omega
  · exact ways_0 w
  · exact ways_1 w
  · exact ways_2 w
  · exact ways_3 w
theorem way_small (i : Nat) : -1 ≤ wayY i ∧ wayY i ≤ 1 ∧ -1 ≤ wayX i ∧ wayX i ≤ 1 := by
  match i with
  | 0 => decide
  | 1 => decide
  | 2 => decide
  | i + 3 => simp [wayY, wayX]
theorem pair_0 (x y : Int) (w : World) : (Instr.index 107 (.agg #[.int .i64 x, .int .i64 y]) (.int .i64 0)).run Try.prog w = .ok (.int .i64 x) w := by kernel_rfl
theorem pair_1 (x y : Int) (w : World) : (Instr.index 107 (.agg #[.int .i64 x, .int .i64 y]) (.int .i64 1)).run Try.prog w = .ok (.int .i64 y) w := by kernel_rfl

set_option maxRecDepth 100000 in
set_option maxHeartbeats 12800000 in
theorem meet_any (B p b g m N cap d a : Nat) (L : List Int) (O : Nat → Bool) (s : FS) (w : World) (hm : 1 ≤ m ∧ m ≤ 8) (hN : m * m = N) (ha : a < N) (hF : Fl N O (fun _ _ => True) s) (hua : s.U.getD a false = false) (hd : d ≤ s.Q.length)
    (hLc : ∀ i, i < N → w.cell? ⟨b, i, none⟩ = some (.int .i64 (L.getD i 0))) (hL : ∀ i, 0 ≤ L.getD i 0 ∧ L.getD i 0 ≤ 63) (hb : b < B) (hB : B ≤ w.heap.size) (h : FlM B p b g m N cap s d w) :
    Calls Try.prog 74 #[.pointer (some ⟨p, 0, none⟩), .int .i64 a] w fun e w' => (∃ r, e = .returned r) ∧ FlM B p b g m N cap (hops m L a s 4) d w' ∧ Below B w w' := by
  have H0 := Lib.hid h
  have HLC := Lib.hid hLc
  have HL := Lib.hid hL
  have HFs := Lib.hid (fun i hi => Fl.hops (L := L) hF hN (hops_true m N L) a ha hua trivial i hi)
  have HB0 : Hid (Below B w w) := Lib.hid (Below.refl _ _)
  have HHB := Lib.hid hB
  have HD := Lib.hid (fun i => Nat.le_trans hd (hops_len m L a s i))
  have HNN := Lib.hid hN
  have hN64 : N ≤ 64 := by rw [← hN]; exact Nat.le_trans (Nat.mul_le_mul hm.2 hm.2) (by decide)
  obtain ⟨q, hq⟩ : ∃ q, a / m = q := ⟨_, rfl⟩
  obtain ⟨r, hr⟩ : ∃ r, a % m = r := ⟨_, rfl⟩
  have hdiv : ((a : Int)).tdiv (m : Int) = (q : Int) := by rw [Int.tdiv_eq_ediv_of_nonneg (by omega), ← Int.natCast_ediv, hq]
  have hmod : ((a : Int)).tmod (m : Int) = (r : Int) := by rw [Int.tmod_eq_emod_of_nonneg (by omega), ← Int.natCast_emod, hr]
  have hq1 : q < m := by rw [← hq]; exact Nat.div_lt_of_lt_mul (by rw [hN]; exact ha)
  have hr1 : r < m := by rw [← hr]; exact Nat.mod_lt _ (by omega)
  have hqw : IntKind.i64.wrap (q : Int) = q := IntWalk.i64_in _ (by omega)
  have hrw : IntKind.i64.wrap (r : Int) = r := IntWalk.i64_in _ (by omega)
  have hmw : IntKind.i64.wrap ((m : Int) - 1) = (m : Int) - 1 := IntWalk.i64_in _ (by omega)
  have hm0 : ¬ m = 0 := by omega
  have HQ := Lib.hid hq
  have HRr := Lib.hid hr
  have HPL := Lib.hid (fun i (h : insTo m a i = true) => And.intro (plcTo_lt hN h) (And.intro (plcTo_int h) (plcTo_ne (by omega) h)))
  clear h hLc hL hF hB hd hN hq hr hua
  go_enter Try.func74, Try.ntmps74
  go_wp2
  go_step3
  go_wp2
  go_step3
  go_wp2
  go_loopg [15] 4 (fun gh s15 wr => ∃ i : Nat, i + gh = 4 ∧ s15 = .int .i64 i ∧ Hid (FlM B p b g m N cap (hops m L a s i) d wr) ∧ Hid (Below B w wr))
  case atStart => exact ⟨0, rfl, rfl, H0, HB0⟩
  case round =>
    obtain ⟨i, hig, rfl, M, K⟩ := hrel
    cases gk with
    | zero =>
      obtain rfl : i = 4 := by omega
      go_wp2
      refine bodyPost_end (results_none rfl _ _ _) rfl ?_
      exact ⟨⟨_, rfl⟩, M.out, K.out⟩
    | succ g1 =>
      have HFi := Lib.hid (HFs.out i (by omega))
      have HDi := Lib.hid (HD.out i)
      have HSK : Hid (∀ u, Below wr.heap.size wr u → (insTo m a i && (hops m L a s i).U.getD (plcTo m a i) false) = false → FlM B p b g m N cap (hops m L a s (i + 1)) d u ∧ Below B w u) := Lib.hid (fun u k hc => by
        refine ⟨?_, K.out.trans (k.mono (by have := K.out.size; have := HHB.out; omega))⟩
        show FlM B p b g m N cap (hop m L a (hops m L a s i) i) d u
        rw [hop_skip hc]
        exact M.out.below k (Nat.le_refl _))
      have HHP : Hid (∀ P v' W cs, plcTo m a i = P → (insTo m a i && (hops m L a s i).U.getD P false) = true → P < 64 → W.heap[p]? = some (.cells ((Array.setIfInBounds cs (3 + P) (.bool false)).setIfInBounds 67 v') 78 (0, 0)) → cs.size = 68 → cs[0]? = some (.slice (some ⟨b, 0, none⟩) N cap) → cs[1]? = some (.slice (some ⟨g, 0, none⟩) N N) → cs[2]? = some (.int .i64 m) →
          (∀ j, j < 64 → cs[3 + j]? = some (.bool ((hops m L a s i).U.getD j false))) → Qu B v' ((hops m L a s i).Q.drop d ++ [(P : Int)]) W → v'.ownBlock ≠ some p → v'.ownBlock ≠ some g →
          Own B (.slice (some ⟨g, 0, none⟩) N N) ((hops m L a s i).H.set P ((hops m L a s i).H.getD a 0 + lessH (L.getD a 0) (L.getD P 0))) W → p ≠ g → B ≤ p → B ≤ g → FlM B p b g m N cap (hops m L a s (i + 1)) d W) :=
        Lib.hid (fun P v' W cs hP hc h64 h0 h1 h2 h3 h4 h5 h7 h8 h9 h10 h11 h12 h13 => flm_hop hP hc (HDi.out) h64 HFi.out.1.ulen h0 h1 h2 h3 h4 h5 h7 h8 h9 h10 h11 h12 h13)
      generalize hops m L a s i = t at *
      obtain ⟨qv, cs, h0, h1, h2, h3, h4, h5, h6, h7, h8, h9, h10, h11, h12, h13⟩ := M.out
      have HR := Lib.hid h0
      have HQ5 := Lib.hid h5
      have HQ7 := Lib.hid h7
      have HQO := Lib.hid (And.intro h8 h9)
      have HOW := Lib.hid h10
      have HBB := Lib.hid (And.intro h12 h13)
      have HCS := Lib.hid (And.intro h1 (And.intro h2 (And.intro h3 (And.intro h4 h6))))
      have HP : Hid (p < wr.heap.size) := Lib.hid ((Array.getElem?_eq_some_iff.1 h0).1)
      have c2 : wr.cell? ⟨p, 2, none⟩ = some (.int .i64 m) := by rw [cell_of_row _ _ _ _ _ _ h0]; exact h4
      clear h0 h1 h2 h3 h4 h5 h6 h7 h8 h9 h10 h12 h13 M HFs HD
      have hilt : i < 4 := by omega
      have hi4 : decide ((i : Int) < 4) = true := by simp; omega
      have hwx := ways_at i hilt
      have hws := way_small i
      have hins : insTo m a i = (inG m ((q : Int) + wayY i) && inG m ((r : Int) + wayX i)) := by unfold insTo rowTo colTo; rw [HQ.out, HRr.out]
      have hPl : insTo m a i = true → plcTo m a i < N ∧ ((plcTo m a i : Nat) : Int) = (m : Int) * ((q : Int) + wayY i) + ((r : Int) + wayX i) ∧ a ≠ plcTo m a i := fun e => by
        have e1 := HPL.out i e
        unfold rowTo colTo at e1
        rw [HQ.out, HRr.out] at e1
        exact e1
      have HPl := Lib.hid hPl
      have HIns := Lib.hid hins
      clear hPl hins HPL
      generalize wayY i = wy at *
      generalize wayX i = wx at *
      obtain ⟨V, hV⟩ : ∃ V : Int, V = (q : Int) + wy := ⟨_, rfl⟩
      obtain ⟨U, hU⟩ : ∃ U : Int, U = (r : Int) + wx := ⟨_, rfl⟩
      rw [← hV, ← hU] at HPl HIns
      have hw1 : IntKind.i64.wrap ((q : Int) + wy) = V := by rw [← hV]; exact IntWalk.i64_in _ (by omega)
      have hw2 : IntKind.i64.wrap ((r : Int) + wx) = U := by rw [← hU]; exact IntWalk.i64_in _ (by omega)
      have hVr : -1 ≤ V ∧ V ≤ 8 := by omega
      have hUr : -1 ≤ U ∧ U ≤ 8 := by omega
      clear hV hU hws
      · go_wp2_with fail
        have W0 : Hid (Below wr.heap.size wr (wr.alloc (.cells #[.int .i64 wy, .int .i64 wx] 107))) := Lib.hid ((Below.refl _ _).alloc (Nat.le_refl _) _)
        have d0 : (wr.alloc (.cells #[.int .i64 wy, .int .i64 wx] 107)).cell? ⟨wr.heap.size, 0, none⟩ = some (.int .i64 wy) := World.cell?_alloc_at _ _ _ _ rfl
        have d1 : (wr.alloc (.cells #[.int .i64 wy, .int .i64 wx] 107)).cell? ⟨wr.heap.size, 1, none⟩ = some (.int .i64 wx) := World.cell?_alloc_at _ _ _ _ rfl
        have e2 : (wr.alloc (.cells #[.int .i64 wy, .int .i64 wx] 107)).cell? ⟨p, 2, none⟩ = some (.int .i64 m) := (World.cell?_alloc_past _ _ _ HP.out).trans c2
        have HS1 : (wr.alloc (.cells #[.int .i64 wy, .int .i64 wx] 107)).heap.size = wr.heap.size + 1 := World.size_alloc _ _
        generalize (wr.alloc (.cells #[.int .i64 wy, .int .i64 wx] 107)) = W1 at *
        have hp1 : p < W1.heap.size := by have := HP.out; omega
        have e3 : (W1.alloc (.cells #[.int .i64 0, .int .i64 0] 107)).cell? ⟨p, 2, none⟩ = some (.int .i64 m) := (World.cell?_alloc_past _ _ _ hp1).trans e2
        have d2 : (W1.alloc (.cells #[.int .i64 0, .int .i64 0] 107)).cell? ⟨wr.heap.size, 0, none⟩ = some (.int .i64 wy) := (World.cell?_alloc_past _ _ _ (by show wr.heap.size < _; omega)).trans d0
        have d3 : (W1.alloc (.cells #[.int .i64 0, .int .i64 0] 107)).cell? ⟨wr.heap.size, 1, none⟩ = some (.int .i64 wx) := (World.cell?_alloc_past _ _ _ (by show wr.heap.size < _; omega)).trans d1
        clear c2
        go_region
        all_goals go_wp2_with fail
        have K3 : Hid (Below wr.heap.size wr (W1.alloc (.cells #[.int .i64 V, .int .i64 U] 107)).drew) := Lib.hid ((W0.out.alloc (by rw [HS1]; omega) _).drew)
        have f2 : (W1.alloc (.cells #[.int .i64 V, .int .i64 U] 107)).drew.cell? ⟨p, 2, none⟩ = some (.int .i64 m) := (World.cell?_alloc_past _ _ _ hp1).trans e2
        have f0 : (W1.alloc (.cells #[.int .i64 V, .int .i64 U] 107)).drew.cell? ⟨wr.heap.size + 1, 0, none⟩ = some (.int .i64 V) := World.cell?_alloc_at _ _ _ _ (by rw [HS1])
        have f1 : (W1.alloc (.cells #[.int .i64 V, .int .i64 U] 107)).drew.cell? ⟨wr.heap.size + 1, 1, none⟩ = some (.int .i64 U) := World.cell?_alloc_at _ _ _ _ (by rw [HS1])
        generalize (W1.alloc (.cells #[.int .i64 V, .int .i64 U] 107)).drew = W3 at *
        clear e2 e3 d0 d1 d2 d3 hp1 HS1 W0
        go_loopg [38] 2 (fun gi s38 wy => ∃ j : Nat, j + gi = 2 ∧ s38 = .int .i64 j ∧ (1 ≤ j → inG m V = true) ∧ (2 ≤ j → inG m U = true) ∧ W3 = wy)
        case atStart => exact ⟨0, rfl, rfl, fun h => absurd h (by omega), fun h => absurd h (by omega), rfl⟩
        case round =>
          obtain ⟨j, hjg, rfl, hj1, hj2, rfl⟩ := hrel
          cases gk with
          | zero =>
            obtain rfl : j = 2 := by omega
            have hi1 := hj1 (by omega)
            have hi2 := hj2 (by omega)
            have hit : insTo m a i = true := by rw [HIns.out, hi1, hi2]; rfl
            obtain ⟨hPN, hPi, hPa⟩ := HPl.out hit
            have HIT := Lib.hid hit
            obtain ⟨P, hP⟩ : ∃ P, plcTo m a i = P := ⟨_, rfl⟩
            rw [hP] at hPN hPi hPa
            have HPE := Lib.hid hP
            obtain ⟨X, hX⟩ : ∃ X : Int, X = (m : Int) * V := ⟨_, rfl⟩
            rw [← hX] at hPi
            have hx1 : IntKind.i64.wrap ((m : Int) * V) = X := by rw [← hX]; exact IntWalk.i64_in _ (by omega)
            have hx2 : IntKind.i64.wrap (X + U) = (P : Int) := by rw [← hPi]; exact IntWalk.i64_in _ (by omega)
            have hP0 : (0 : Int) ≤ (P : Int) := by omega
            have hP64 : (P : Int) < 64 := by omega
            have HP64 : Hid (P < 64) := Lib.hid (by omega)
            have HR3 : Hid (W3.heap[p]? = some (.cells cs 78 (0, 0))) := Lib.hid ((K3.out.block p HP.out).trans HR.out)
            have f3 : W3.cell? ⟨p, 3 + P, none⟩ = some (.bool (t.U.getD P false)) := by rw [cell_of_row _ _ _ _ _ _ HR3.out]; exact HQ5.out P HP64.out
            have HPI := Lib.hid hPi
            clear hX hP hPi hj1 hj2 hi1 hi2 hit HPl HIns
            cases hx : t.U.getD P false
            · as_aux_lemma =>
              rw [hx] at f3
              have HX := Lib.hid hx
              clear hx
              go_wp2_with fail
              go_region
              all_goals go_wp2_with fail
              go_roundg g1
              case measure => omega
              case rel => exact ⟨i + 1, by omega, by first | rfl | simp, Lib.hid (HSK.out _ (below_drewN K3.out 1) (by rw [HPE.out, HX.out, Bool.and_false])).1, Lib.hid (HSK.out _ (below_drewN K3.out 1) (by rw [HPE.out, HX.out, Bool.and_false])).2⟩
            · as_aux_lemma =>
              rw [hx] at f3
              have HX := Lib.hid hx
              clear hx
              have f3z : W3.frozen? ⟨p, 3 + P, none⟩ = false := frozen_of_row _ _ _ _ _ HR3.out
              have p0 : W3.cell? ⟨p, 0, none⟩ = some (.slice (some ⟨b, 0, none⟩) N cap) := by rw [cell_of_row _ _ _ _ _ _ HR3.out]; exact HCS.out.2.1
              have p1 : W3.cell? ⟨p, 1, none⟩ = some (.slice (some ⟨g, 0, none⟩) N N) := by rw [cell_of_row _ _ _ _ _ _ HR3.out]; exact HCS.out.2.2.1
              have iag := Try.isAgg60
              have szo := Try.sizeOf60
              go_wp2_with fail
              go_region
              all_goals go_wp2_with fail
              have hW4 : W3.heap.size ≤ (W3.setCell ⟨p, 3 + P, none⟩ (.bool false)).drew.heap.size := by show _ ≤ (W3.setCell _ _).heap.size; rw [World.size_setCell]; exact Nat.le_refl _
              have HR4 : Hid ((W3.setCell ⟨p, 3 + P, none⟩ (.bool false)).drew.heap[p]? = some (.cells (cs.setIfInBounds (3 + P) (.bool false)) 78 (0, 0))) := Lib.hid (heap_setCell_same _ _ _ _ _ _ HR3.out)
              have K4 : Hid (Below B w (W3.setCell ⟨p, 3 + P, none⟩ (.bool false)).drew) := Lib.hid (((K.out.trans (K3.out.mono (by have := K.out.size; have := HHB.out; omega))).setCell (p := ⟨p, 3 + P, none⟩) HBB.out.1 _).drew)
              have O4 : Hid (Own B (.slice (some ⟨g, 0, none⟩) N N) t.H (W3.setCell ⟨p, 3 + P, none⟩ (.bool false)).drew) := Lib.hid (World.ownsRow.kept (HOW.out.below K3.out (Nat.le_refl _)) (row := some p) ⟨rfl, rfl, rfl, by show _ ≤ (W3.setCell _ _).heap.size; rw [World.size_setCell]; exact Nat.le_refl _, fun k _ hne => Below.heap_setCell _ _ _ _ (fun e => hne (by rw [e]))⟩ (.inr (fun e => h11 (by simp only [Value.ownBlock, Option.some.injEq] at e; exact e.symm))))
              have Q4 : Hid (Qu B qv (t.Q.drop d) (W3.setCell ⟨p, 3 + P, none⟩ (.bool false)).drew) := Lib.hid ((HQ7.out.below K3.out (Nat.le_refl _)).setCell HQO.out.1)
              have hst := step_any B b cap g N a P L t.H (W3.setCell ⟨p, 3 + P, none⟩ (.bool false)).drew ha hPN hPa hN64 HFi.out.1.hlen (by have := K4.out.size; have := HHB.out; have := K4.out; omega) (by have := HBB.out.2; omega)
                ((K4.out.cell (p := ⟨b, a, none⟩) hb).trans (HLC.out a ha)) ((K4.out.cell (p := ⟨b, P, none⟩) hb).trans (HLC.out P hPN)) (HL.out a) (HL.out P) (by have h1 := HFi.out.1.bd a; have h2 := HFi.out.1.cnt; omega) O4.out
              generalize (W3.setCell ⟨p, 3 + P, none⟩ (.bool false)).drew = W4 at *
              refine hst.mono ?_
              rintro e W5 ⟨⟨rr, rfl⟩, o5, gr5⟩
              clear hst
              have hp4 : p < W4.heap.size := (Array.getElem?_eq_some_iff.1 HR4.out).1
              have HR5 : Hid (W5.heap[p]? = some (.cells (cs.setIfInBounds (3 + P) (.bool false)) 78 (0, 0))) := Lib.hid ((gr5.block p hp4 (fun e => h11 (by simpa using e))).trans HR4.out)
              have K5 : Hid (Below B w W5) := Lib.hid (K4.out.grown gr5 (by have := K4.out.size; have := HHB.out; omega) (fun k hk => by cases hk; exact HBB.out.2))
              have O5 := Lib.hid o5
              have Q5 : Hid (Qu B qv (t.Q.drop d) W5) := Lib.hid (Q4.out.grown gr5 HQO.out.2)
              have hp5 : p < W5.heap.size := (Array.getElem?_eq_some_iff.1 HR5.out).1
              have hg5 : g < W5.heap.size := by
                obtain ⟨g', c', e', _, h'⟩ := o5.form (by rw [List.length_set, HFi.out.1.hlen]; omega)
                simp only [Value.slice.injEq, Option.some.injEq, Addr.mk.injEq, and_true] at e'
                omega
              have q67 : W5.cell? ⟨p, 67, none⟩ = some qv := by rw [cell_of_row _ _ _ _ _ _ HR5.out, Array.getElem?_setIfInBounds_ne (by have := HP64.out; omega)]; exact HCS.out.2.2.2.2
              have hB5 : B ≤ (W5.alloc (.cells #[.int .i64 (P : Int)] 2)).heap.size := by rw [World.size_alloc]; have := K5.out.size; have := HHB.out; omega
              have hqn : (t.Q.drop d).length ≤ 1048576 := by rw [List.length_drop]; have := HFi.out.1.cnt; omega
              have HQN := Lib.hid hqn
              clear o5 hqn hp4 hW4
              go_wp2_with (at_builtin; refine wpList_pushQ _ rfl (.tmp 82) (.tmp 84) rfl B qv _ (P : Int) ⟨W5.heap.size, 0, none⟩ rfl rfl (World.cell?_alloc_at _ _ _ _ rfl) (Q5.out.alloc _) HQN.out hB5 ?_)
              intro v' W6 q6 gr6 ap6
              obtain ⟨va, vn, vc, rfl⟩ := q6.shape
              have HR6 : Hid (W6.heap[p]? = some (.cells (cs.setIfInBounds (3 + P) (.bool false)) 78 (0, 0))) := Lib.hid ((gr6.block p (by rw [World.size_alloc]; omega) (fun e => HQO.out.1 e.symm)).trans ((Below.heap_alloc _ _ _ hp5).trans HR5.out))
              have K6 : Hid (Below B w W6) := Lib.hid (((K5.out.alloc (by have := K5.out.size; have := HHB.out; omega) _)).grown gr6 hB5 (fun k hk => (HQ7.out.lt k hk).1))
              have O6 : Hid (Own B (.slice (some ⟨g, 0, none⟩) N N) (t.H.set P (t.H.getD a 0 + lessH (L.getD a 0) (L.getD P 0))) W6) := Lib.hid (World.ownsRow.kept (O5.out.alloc _) gr6 (.inr (fun e => HQO.out.2 (by simp only [Value.ownBlock] at e ⊢; exact e.symm))))
              have Q6 := Lib.hid q6
              have HV6 := Lib.hid (And.intro (ap6 p (by omega) HQO.out.1) (ap6 g (by omega) HQO.out.2))
              have c67 : W6.cell? ⟨p, 67, none⟩ = some qv := by rw [cell_of_row _ _ _ _ _ _ HR6.out, Array.getElem?_setIfInBounds_ne (by have := HP64.out; omega)]; exact HCS.out.2.2.2.2
              have z67 : W6.frozen? ⟨p, 67, none⟩ = false := frozen_of_row _ _ _ _ _ HR6.out
              clear q6 gr6 ap6 gr5
              go_wp2_with fail
              go_roundg g1
              case measure => omega
              case rel =>
                refine ⟨i + 1, by omega, by first | rfl | simp, Lib.hid (HHP.out P _ _ cs HPE.out (by rw [HIT.out, HX.out]; rfl) HP64.out (heap_setCell_same _ _ _ _ _ _ HR6.out) HCS.out.1 HCS.out.2.1 HCS.out.2.2.1 HCS.out.2.2.2.1 HQ5.out (Q6.out.setCell HV6.out.1) HV6.out.1 HV6.out.2 ?_ h11 HBB.out.1 HBB.out.2), Lib.hid (K6.out.setCell (p := ⟨p, 67, none⟩) HBB.out.1 _)⟩
                exact World.ownsRow.kept O6.out (row := some p) ⟨rfl, rfl, rfl, by show _ ≤ (W6.setCell _ _).heap.size; rw [World.size_setCell]; exact Nat.le_refl _, fun k _ hne => Below.heap_setCell _ _ _ _ (fun e => hne (by rw [e]))⟩ (.inr (fun e => h11 (by simp only [Value.ownBlock, Option.some.injEq] at e; exact e.symm)))
          | succ gj =>
            obtain rfl | rfl : j = 0 ∨ j = 1 := by omega
            · as_aux_lemma =>
              have hpx := pair_0 V U
              have HBW := Lib.hid (between_b 0 V ((m : Int) - 1) W3)
              cases hin : inG m V
              · have hin' : (decide (0 ≤ V) && decide (V ≤ (m : Int) - 1)) = false := hin
                rw [hin'] at HBW
                clear hin'
                have HIN := Lib.hid hin
                clear hin
                go_wp2_with fail
                refine HBW.out.mono ?_
                rintro e w1 ⟨rfl, rfl⟩
                go_wp2_with fail
                go_roundg g1
                case measure => omega
                case rel => exact ⟨i + 1, by omega, by first | rfl | simp, Lib.hid (HSK.out _ K3.out (by rw [HIns.out, HIN.out]; rfl)).1, Lib.hid (HSK.out _ K3.out (by rw [HIns.out, HIN.out]; rfl)).2⟩
              · have hin' : (decide (0 ≤ V) && decide (V ≤ (m : Int) - 1)) = true := hin
                rw [hin'] at HBW
                clear hin'
                have HIN := Lib.hid hin
                clear hin
                go_wp2_with fail
                refine HBW.out.mono ?_
                rintro e w1 ⟨rfl, rfl⟩
                go_wp2_with fail
                go_roundg gj
                case measure => omega
                case rel => exact ⟨1, by omega, by first | rfl | simp, fun _ => HIN.out, fun h => absurd h (by omega), rfl⟩
            · as_aux_lemma =>
              have hpx := pair_1 V U
              have HV1 := Lib.hid (hj1 (Nat.le_refl _))
              have HBW := Lib.hid (between_b 0 U ((m : Int) - 1) W3)
              clear hj1 hj2
              cases hin : inG m U
              · have hin' : (decide (0 ≤ U) && decide (U ≤ (m : Int) - 1)) = false := hin
                rw [hin'] at HBW
                clear hin'
                have HIN := Lib.hid hin
                clear hin
                go_wp2_with fail
                refine HBW.out.mono ?_
                rintro e w1 ⟨rfl, rfl⟩
                go_wp2_with fail
                go_roundg g1
                case measure => omega
                case rel => exact ⟨i + 1, by omega, by first | rfl | simp, Lib.hid (HSK.out _ K3.out (by rw [HIns.out, HIN.out, Bool.and_false]; rfl)).1, Lib.hid (HSK.out _ K3.out (by rw [HIns.out, HIN.out, Bool.and_false]; rfl)).2⟩
              · have hin' : (decide (0 ≤ U) && decide (U ≤ (m : Int) - 1)) = true := hin
                rw [hin'] at HBW
                clear hin'
                have HIN := Lib.hid hin
                clear hin
                go_wp2_with fail
                refine HBW.out.mono ?_
                rintro e w1 ⟨rfl, rfl⟩
                go_wp2_with fail
                go_roundg gj
                case measure => omega
                case rel => exact ⟨2, by omega, by first | rfl | simp, fun _ => HV1.out, fun _ => HIN.out, rfl⟩
end Go.Proofs.Ytjmfffgddmnkmac
