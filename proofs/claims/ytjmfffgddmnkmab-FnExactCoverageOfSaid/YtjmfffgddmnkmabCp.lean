/- The cell of a patch, and whether patches are in an object. Condition: none, or small numbers. -/
import Derived.Test.YtjmfffgddmnkmabPq
import Derived.Test.YtjmfffgddmnkmabCv
import Derived.Test.YtjmfffgddmnkmabCe
import Derived.Test.YtjmfffgddmnkmabHq
import Derived.BigRegion
namespace Go.Proofs.Ytjmfffgddmnkmab
open Go Go.RowKit

set_option maxRecDepth 100000 in
set_option maxHeartbeats 1600000 in
theorem moved_any (r c n y x : Nat) (hr : r < n) (hc : c < n) (hn : n ≤ 8) (hy : y < 8) (hx : x < 8) (w : World) :
    Calls Try.prog 111 #[atV r c, .int .i64 n, .int .i64 y, .int .i64 x] w fun e w' => e = .returned (atV ((r + y) % n) ((c + x) % n)) ∧ Below w.heap.size w w' := by
  have h1 : IntKind.i64.wrap ((r : Int) + (y : Int)) = ((r + y : Nat) : Int) := by rw [← Int.natCast_add]; exact IntWalk.i64_in _ (by omega)
  have h2 : IntKind.i64.wrap ((c : Int) + (x : Int)) = ((c + x : Nat) : Int) := by rw [← Int.natCast_add]; exact IntWalk.i64_in _ (by omega)
  have h3 : ((r + y : Nat) : Int) % (n : Int) = (((r + y) % n : Nat) : Int) := (Int.natCast_emod _ _).symm
  have h4 : ((c + x : Nat) : Int) % (n : Int) = (((c + x) % n : Nat) : Int) := (Int.natCast_emod _ _).symm
  have hn0 : (n : Int) ≠ 0 := by omega
  have a := Try.isAgg109
  have z := Try.sizeOf109
  unfold atV
  generalize (r + y) % n = q at *
  generalize (c + x) % n = t at *
  generalize r + y = p at *
  generalize c + x = s at *
  go_enter Try.func111, Try.ntmps111
  go_wp2
  go_region
  all_goals (try go_wp2)
  refine bodyPost_ret (v := .agg #[.int .i64 q, .int .i64 t]) (results_cell_row (fn := Try.f111) (p := 8) (ty := 109) rfl _ _ (w.heap.size + 1) 109 #[.int .i64 q, .int .i64 t] (0, 0) _ rfl (h2_1 w _ _) Try.underlying109 rfl infoP_size) rfl ⟨rfl, ?_⟩
  exact below_drewN (((Below.refl _ _).alloc (Nat.le_refl _) _).alloc (by rw [World.size_alloc]; omega) _) 1

set_option maxRecDepth 100000 in
theorem l08Place_any (n r c : Int) (hn : IntKind.i64.wrap (n - 1) = n - 1) (w : World) :
    Calls Try.prog 108 #[.int .i64 n, .agg #[.int .i64 r, .int .i64 c]] w fun e w' => e = .returned (.bool (isAt n r c)) ∧ Below w.heap.size w w' := by
  unfold isAt
  cases hq : (decide (0 ≤ r) && decide (r ≤ n - 1))
  · go_enter Try.func108, Try.ntmps108
    go_wp2_with fail
    refine (l01In_b r 0 (n - 1) _).mono ?_
    rw [hq]
    rintro e w1 ⟨rfl, rfl⟩
    go_wp2_with fail
    go_ret
    exact ⟨rfl, (Below.refl _ _).alloc (Nat.le_refl _) _⟩
  · go_enter Try.func108, Try.ntmps108
    go_wp2_with fail
    refine (l01In_b r 0 (n - 1) _).mono ?_
    rw [hq]
    rintro e w1 ⟨rfl, rfl⟩
    go_wp2_with fail
    refine (l01In_b c 0 (n - 1) _).mono ?_
    rintro e w1 ⟨rfl, rfl⟩
    go_wp2_with fail
    go_ret
    exact ⟨rfl, (Below.refl _ _).alloc (Nat.le_refl _) _⟩

/-- the test whether a place is none: the side lies in block b -/
theorem notAt_any (n r c : Int) (b : Nat) (hn : IntKind.i64.wrap (n - 1) = n - 1) (w : World) (hb : w.cell? ⟨b, 0, none⟩ = some (.int .i64 n)) (hlt : b < w.heap.size) :
    Calls Try.prog 132 #[.agg #[.int .i64 r, .int .i64 c], .pointer (some ⟨b, 0, none⟩)] w fun e w' => e = .returned (.bool (!isAt n r c)) ∧ Below w.heap.size w w' := by
  unfold isAt
  have h0 : (w.alloc (.cells #[.int .i64 r, .int .i64 c] 109)).cell? ⟨b, 0, none⟩ = some (.int .i64 n) := by
    rw [((Below.refl w.heap.size w).alloc (Nat.le_refl _) _).cell (p := ⟨b, 0, none⟩) hlt]; exact hb
  cases hq : (decide (0 ≤ r) && decide (r ≤ n - 1))
  · go_enter Try.func132, Try.ntmps132
    go_wp2_with fail
    refine (between_b 0 r (n - 1) _).mono ?_
    rw [hq]
    rintro e w1 ⟨rfl, rfl⟩
    go_wp2_with fail
    go_ret
    exact ⟨rfl, (Below.refl _ _).alloc (Nat.le_refl _) _⟩
  · go_enter Try.func132, Try.ntmps132
    go_wp2_with fail
    refine (between_b 0 r (n - 1) _).mono ?_
    rw [hq]
    rintro e w1 ⟨rfl, rfl⟩
    go_wp2_with fail
    refine (between_b 0 c (n - 1) _).mono ?_
    rintro e w1 ⟨rfl, rfl⟩
    go_wp2_with fail
    go_ret
    exact ⟨by rw [Bool.true_and, Bool.not_and]; rfl, (Below.refl _ _).alloc (Nat.le_refl _) _⟩

theorem areAt_succ {n : Int} {F : List Int} {k : Nat} (h : areAt n F k = true) (h2 : isAt n (F.getD (k * 2) 0) (F.getD (k * 2 + 1) 0) = true) : areAt n F (k + 1) = true := by rw [areAt, h, h2]; rfl

set_option maxRecDepth 100000 in
set_option maxHeartbeats 800000 in
theorem indexP_any (n : Int) (b : Nat) (a : Option Addr) (m cap : Nat) (F : List Int) (w : World) (hn : IntKind.i64.wrap (n - 1) = n - 1) (h : CameP a m F w) (hm : m ≤ 1048576) (hb : w.cell? ⟨b, 0, none⟩ = some (.int .i64 n)) (hlt : b < w.heap.size) :
    Calls Try.prog 145 #[.slice a m cap, .func (.func 132) #[] #[.pointer (some ⟨b, 0, none⟩)]] w fun e w' => ∃ r : Int, e = .returned (.int .i64 r) ∧ decide (r ≥ 0) = !areAt n F m ∧ Below w.heap.size w w' := by
  have H1 := Lib.hid (fun i hi => CameP.at h i hi)
  have HB := Lib.hid hb
  have HT := Lib.hid hlt
  clear h hb hlt
  have aa := Try.isAgg109
  have zz := Try.sizeOf109
  go_enter Try.func145, Try.ntmps145
  go_wp2
  go_loopw [8] (fun i wr => ∃ k : Nat, k ≤ m ∧ i = .int .i64 k ∧ Hid (areAt n F k = true) ∧ Hid (Below w.heap.size w wr)) (fun i _ => m - (intOf i).toNat)
  case atStart => exact ⟨0, by omega, rfl, Lib.hid rfl, Lib.hid (Below.refl _ _)⟩
  case round =>
    obtain ⟨k, hk, rfl, HP, BW⟩ := hrel
    by_cases hlt : k < m
    · have hdk : decide ((k : Int) < (m : Int)) = true := by simp; omega
      obtain ⟨b1, o1, rfl, hb1, p1, q1⟩ := H1.out k hlt
      have r1 := (BW.out.cell (p := ⟨b1, o1 + k * 2, none⟩) hb1).trans p1
      have s1 := (BW.out.cell (p := ⟨b1, o1 + k * 2 + 1, none⟩) hb1).trans q1
      have HS := Lib.hid (areAt_succ (n := n) (F := F) (k := k) HP.out)
      have HN := Lib.hid (fun e : isAt n (F.getD (k * 2) 0) (F.getD (k * 2 + 1) 0) = false => areAt_no e hlt)
      have HC := Lib.hid ((BW.out.cell (p := ⟨b, 0, none⟩) HT.out).trans HB.out)
      have HL : Hid (b < wr.heap.size) := Lib.hid (Nat.lt_of_lt_of_le HT.out BW.out.size)
      clear p1 q1 hb1 H1
      generalize F.getD (k * 2) 0 = x at *
      generalize F.getD (k * 2 + 1) 0 = y at *
      have HQ : ∃ q, isAt n x y = q := ⟨_, rfl⟩
      obtain ⟨q, HQ⟩ := HQ
      have HX := Lib.hid HQ
      have HFX := notAt_any n x y b hn wr HC.out HL.out
      rw [HX.out] at HFX
      have HFX := Lib.hid HFX
      clear HQ
      cases q
      · go_wp2_with fail
        refine HFX.out.mono ?_
        rintro e w1 ⟨rfl, k1⟩
        have BB := Lib.hid (BW.out.trans (k1.mono BW.out.size))
        clear k1
        go_wp2
        go_ret
        exact ⟨_, rfl, by rw [HN.out HX.out]; simp, BB.out⟩
      · go_wp2_with fail
        refine HFX.out.mono ?_
        rintro e w1 ⟨rfl, k1⟩
        have BB := Lib.hid (BW.out.trans (k1.mono BW.out.size))
        clear k1
        go_wp2
        exact ⟨⟨k + 1, by omega, by go_num, Lib.hid (HS.out HX.out), BB⟩, by simp [intOf]; omega⟩
    · obtain rfl : k = m := by omega
      go_wp2
      go_ret
      exact ⟨_, rfl, by rw [HP.out]; rfl, BW.out⟩

theorem containsP_any (n : Int) (b : Nat) (a : Option Addr) (m cap : Nat) (F : List Int) (w : World) (hn : IntKind.i64.wrap (n - 1) = n - 1) (h : CameP a m F w) (hm : m ≤ 1048576) (hb : w.cell? ⟨b, 0, none⟩ = some (.int .i64 n)) (hlt : b < w.heap.size) :
    Calls Try.prog 133 #[.slice a m cap, .func (.func 132) #[] #[.pointer (some ⟨b, 0, none⟩)]] w fun e w' => e = .returned (.bool (!areAt n F m)) ∧ Below w.heap.size w w' := by
  have H1 := Lib.hid (indexP_any n b a m cap F w hn h hm hb hlt)
  clear h hb hlt
  go_enter Try.func133, Try.ntmps133
  go_wp2_with fail
  refine H1.out.mono ?_
  rintro e w1 ⟨r, rfl, hr, k1⟩
  have HR := Lib.hid hr
  have HK := Lib.hid k1
  clear hr k1
  go_wp2_with fail
  go_ret
  exact ⟨by rw [← HR.out]; rfl, HK.out⟩

end Go.Proofs.Ytjmfffgddmnkmab
