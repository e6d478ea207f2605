/- The program's and the model's ways to ask whether a number is a side answer alike. Condition: none. The program's types of pictures. Condition: none. The model's way to ask whether something is a picture. Condition: 64 floats. -/
import Derived.Test.YtclflnpbiiimiaaDoorM1
namespace Go.Proofs.YtclflnpbiiimiaaDoor
open Go Go.RowKit

/-- the powers of two up to 64 -/
def pow64 (n : Int) : Bool := n == 1 || n == 2 || n == 4 || n == 8 || n == 16 || n == 32 || n == 64
theorem and_prev : ∀ k : Fin 65, (bits .and .i64 (k.val : Int) ((k.val : Int) - 1) == 0) = (pow64 (k.val : Int) || (k.val : Int) == 0) := by decide +kernel
theorem pow64_not (n : Int) (h : n < 1 ∨ 64 < n) : pow64 n = false := by
  unfold pow64
  simp only [Bool.or_eq_false_iff, beq_eq_false_iff_ne]
  omega
theorem powOf_lo (n m : Int) (h : n < 1) (w : World) : Calls Tryd.prog 64 #[.int .i64 n, .int .i64 m] w fun e w' => e = .returned (.bool false) ∧ w = w' := by
  have h1 : decide (n ≥ 1) = false := by simp; omega
  go_enter Tryd.func64, Tryd.ntmps64
  go_wp2
  go_ret
  exact ⟨rfl, rfl⟩
theorem powOf_hi (n m : Int) (h0 : 1 ≤ n) (h : m < n) (w : World) : Calls Tryd.prog 64 #[.int .i64 n, .int .i64 m] w fun e w' => e = .returned (.bool false) ∧ w = w' := by
  have h1 : decide (n ≤ m) = false := by simp; omega
  go_enter Tryd.func64, Tryd.ntmps64
  go_wp2
  go_ret
  exact ⟨rfl, rfl⟩
theorem powOf_mid (n m : Int) (h0 : 1 ≤ n) (h : n ≤ m) (hm : m ≤ 64) (w : World) : Calls Tryd.prog 64 #[.int .i64 n, .int .i64 m] w fun e w' => e = .returned (.bool (pow64 n)) ∧ w = w' := by
  have h1 : decide (n ≥ 1) = true := by simp; omega
  have h2 : decide (n ≤ m) = true := by simp; omega
  have h3 : IntKind.i64.wrap (n - 1) = n - 1 := IntWalk.i64_in _ (by omega)
  have h4 : (bits .and .i64 n (n - 1) == 0) = pow64 n := by
    have := and_prev ⟨n.toNat, by omega⟩
    simp only [Int.toNat_of_nonneg (show 0 ≤ n by omega)] at this
    rw [this, show (n == 0) = false by simp; omega, Bool.or_false]
  go_enter Tryd.func64, Tryd.ntmps64
  go_wp2
  go_ret
  exact ⟨by rw [← h4]; rfl, rfl⟩
theorem powOf_any (n m : Int) (hm : m ≤ 64) (w : World) : Calls Tryd.prog 64 #[.int .i64 n, .int .i64 m] w fun e w' => e = .returned (.bool (decide (n ≤ m) && pow64 n)) ∧ w = w' := by
  rcases Int.lt_or_le n 1 with h | h
  · rw [pow64_not n (.inl h), Bool.and_false]; exact powOf_lo n m h w
  · rcases Int.lt_or_le m n with h' | h'
    · rw [show decide (n ≤ m) = false by simp; omega, Bool.false_and]; exact powOf_hi n m h h' w
    · rw [show decide (n ≤ m) = true by simp; omega, Bool.true_and]; exact powOf_mid n m h h' hm w

theorem side_not (n : Int) (h : n < 1 ∨ 8 < n) : side n = false := by
  unfold side
  simp only [Bool.or_eq_false_iff, beq_eq_false_iff_ne]
  omega

theorem isSide_any (n : Int) (w : World) : Calls Tryd.prog 50 #[.int .i64 n] w fun e w' => e = .returned (.bool (side n)) ∧ w = w' := by
  have hs : (decide (n ≤ 8) && pow64 n) = side n := by
    rcases Int.lt_or_le n 1 with h | h
    · rw [pow64_not n (.inl h), side_not n (.inl h), Bool.and_false]
    · rcases Int.lt_or_le 8 n with h' | h'
      · rw [show decide (n ≤ 8) = false by simp; omega, side_not n (.inr h'), Bool.false_and]
      · rw [show decide (n ≤ 8) = true by simp; omega, Bool.true_and]
        unfold pow64 side
        rw [show (n == 16) = false by simp; omega, show (n == 32) = false by simp; omega, show (n == 64) = false by simp; omega]
        simp only [Bool.or_false]
  have HC := powOf_any n 8 (by omega) w
  rw [hs] at HC
  go_enter Tryd.func50, Tryd.ntmps50
  go_wp2_with fail
  refine HC.mono ?_
  rintro e w' ⟨rfl, rfl⟩
  go_wp2
  go_ret
  exact ⟨rfl, rfl⟩

theorem l01Side_no (n : Int) (h : side n = false) (w : World) : Calls Tryd.prog 51 #[.int .i64 n] w fun e w' => e = .returned (.bool false) ∧ w = w' := by
  unfold side at h
  simp only [Bool.or_eq_false_iff] at h
  obtain ⟨⟨⟨h1, h2⟩, h3⟩, h4⟩ := h
  go_enter Tryd.func51, Tryd.ntmps51
  go_wp2
  go_ret
  exact ⟨rfl, rfl⟩
theorem side_yes (n : Int) (h : side n = true) : n = 1 ∨ n = 2 ∨ n = 4 ∨ n = 8 := by
  unfold side at h
  simp only [Bool.or_eq_true, beq_iff_eq] at h
  omega
theorem l01Side_any (n : Int) (w : World) : Calls Tryd.prog 51 #[.int .i64 n] w fun e w' => e = .returned (.bool (side n)) ∧ w = w' := by
  cases h : side n
  · exact l01Side_no n h w
  · rcases side_yes n h with rfl | rfl | rfl | rfl
    · exact calls_of (fun _ => false) (known_none _) 99 (fun cs => by kernel_rfl)
    · exact calls_of (fun _ => false) (known_none _) 99 (fun cs => by kernel_rfl)
    · exact calls_of (fun _ => false) (known_none _) 99 (fun cs => by kernel_rfl)
    · exact calls_of (fun _ => false) (known_none _) 99 (fun cs => by kernel_rfl)

end Go.Proofs.YtclflnpbiiimiaaDoor

namespace Go.Proofs.YtclflnpbiiimiaaDoor
open Go Go.RowKit

theorem info32 : (Tryd.prog.info? 41).map (fun i => (i.zero, i.size)) = some (some (.agg (pic 0 zero64)), 65) := by kernel_rfl

theorem size28 : (Tryd.prog.info? 39).map (·.size) = some 64 := by kernel_rfl

end Go.Proofs.YtclflnpbiiimiaaDoor

namespace Go.Proofs.YtclflnpbiiimiaaDoor
open Go Go.RowKit

def bitsOf : Value → Nat
  | .float _ b => b
  | _ => 0
def bitsAt (zs : Array Value) (k : Nat) : Nat := bitsOf (zs.getD k undef)
def ltz (x : Nat) : Bool := FloatKind.f32.format.order x 0 == some .lt
def eqz (x : Nat) : Bool := FloatKind.f32.format.order x 0 == some .eq
/-- may the k-th level of a picture with n cells be these bits? -/
def okCell (n k x : Nat) : Bool := fin x && !ltz x && (decide (k < n) || eqz x)
/-- are the first k levels as they have to be? -/
def okTo (n : Nat) (zs : Array Value) : Nat → Bool
  | 0 => true
  | k + 1 => okTo n zs k && okCell n k (bitsAt zs k)
def shown (s : Int) (zs : Array Value) : Bool := side s && okTo (s * s).toNat zs 64

theorem bitsAt_of (zs : Array Value) (k x : Nat) (h : zs[k]? = some (.float .f32 x)) : bitsAt zs k = x := by
  unfold bitsAt
  rw [Array.getD_eq_getD_getElem?, h]
  rfl

theorem okTo_false (n : Nat) (zs : Array Value) (k m : Nat) (h : okTo n zs k = false) (hm : k ≤ m) : okTo n zs m = false := by
  induction m with
  | zero => obtain rfl : k = 0 := by omega
            exact h
  | succ m ih =>
    by_cases h1 : k = m + 1
    · subst h1; exact h
    · rw [okTo, ih (by omega)]; rfl

set_option maxHeartbeats 400000 in
theorem shown_no (s : Int) (zs : Array Value) (h : side s = false) (w : World) : Calls Tryd.prog 58 #[.agg (pic s zs)] w fun e w' => e = .returned (.bool false) ∧ Below w.heap.size w w' := by
  have h0 := pic_zero s zs
  generalize pic s zs = cs at *
  go_enter Tryd.func58, Tryd.ntmps58
  go_wp2_with (go_at_call 51; refine (l01Side_any _ _).mono ?_; rw [h]; rintro e w' ⟨rfl, rfl⟩)
  go_ret
  exact ⟨rfl, (Below.refl _ _).alloc (Nat.le_refl _) _⟩

set_option maxHeartbeats 1000000 in
theorem shown_two (zs : Array Value) (hz : Floats zs) (w : World) : Calls Tryd.prog 58 #[.agg (pic 2 zs)] w fun e w' => e = .returned (.bool (okTo 4 zs 64)) ∧ Below w.heap.size w w' := by
  have HZ := Lib.hid hz
  have h0 := pic_zero 2 zs
  have HP := Lib.hid (pic_succ 2 zs)
  have hs : side 2 = true := by decide
  generalize pic 2 zs = cs at *
  clear hz
  go_enter Tryd.func58, Tryd.ntmps58
  go_wp2_with (go_at_call 51; refine (l01Side_any _ _).mono ?_; rw [hs]; rintro e w' ⟨rfl, rfl⟩)
  clear hs
  go_loopw [3] (fun i wr => ∃ k n : Nat, k ≤ 64 ∧ i = .int .i64 k ∧ Hid (okTo 4 zs k = true) ∧ wr = (w.alloc (.cells cs 41)).drewN n) (fun i _ => 64 - (intOf i).toNat)
  case atStart => exact ⟨0, 0, by omega, rfl, Lib.hid rfl, rfl⟩
  case round =>
    obtain ⟨k, n, hk, rfl, hok, rfl⟩ := hrel
    by_cases hlt : k < 64
    · obtain ⟨x, hx, hzk⟩ := HZ.out.2 k hlt
      have hc1 : cs[1 + k]? = some (.float .f32 x) := by rw [Nat.add_comm, HP.out]; exact hzk
      have HN : Hid (okTo 4 zs (k + 1) = okCell 4 k x) := Lib.hid (by rw [okTo, hok.out, bitsAt_of zs k x hzk]; rfl)
      clear hzk
      cases hf : fin x
      · have HF : Hid (okTo 4 zs 64 = false) := Lib.hid (okTo_false 4 zs (k + 1) 64 (by rw [HN.out]; simp [okCell, hf]) (by omega))
        go_wp2_with (go_at_call 59; refine (fine_any _ _).mono ?_; rw [hf]; rintro e w' ⟨rfl, n', rfl⟩)
        go_ret
        exact ⟨by rw [HF.out]; rfl, below_drewN ((Below.refl _ _).alloc (Nat.le_refl _) _) _⟩
      · cases hl : ltz x
        · have hl' : (FloatKind.f32.format.order x 0 == some .lt) = false := hl
          by_cases hkn : k < 4
          · have HF : Hid (okTo 4 zs (k + 1) = true) := Lib.hid (by rw [HN.out]; simp [okCell, hf, hl, hkn])
            clear hl
            go_wp2_with (go_at_call 59; refine (fine_any _ _).mono ?_; rw [hf]; rintro e w' ⟨rfl, n', rfl⟩)
            refine ⟨⟨k + 1, n + n', by omega, by go_num, HF, rfl⟩, by simp [intOf]; omega⟩
          · cases he : eqz x
            · have he' : (FloatKind.f32.format.order x 0 == some .eq) = false := he
              have he2 : (FloatKind.f32.format.order x 0 != some .eq) = true := by rw [bne, he']; rfl
              have HF : Hid (okTo 4 zs 64 = false) := Lib.hid (okTo_false 4 zs (k + 1) 64 (by rw [HN.out]; simp [okCell, hf, hl, hkn, he]) (by omega))
              clear hl he
              go_wp2_with (go_at_call 59; refine (fine_any _ _).mono ?_; rw [hf]; rintro e w' ⟨rfl, n', rfl⟩)
              go_ret
              exact ⟨by rw [HF.out]; rfl, below_drewN ((Below.refl _ _).alloc (Nat.le_refl _) _) _⟩
            · have he' : (FloatKind.f32.format.order x 0 == some .eq) = true := he
              have he2 : (FloatKind.f32.format.order x 0 != some .eq) = false := by rw [bne, he']; rfl
              have HF : Hid (okTo 4 zs (k + 1) = true) := Lib.hid (by rw [HN.out]; simp [okCell, hf, hl, he])
              clear hl he
              go_wp2_with (go_at_call 59; refine (fine_any _ _).mono ?_; rw [hf]; rintro e w' ⟨rfl, n', rfl⟩)
              refine ⟨⟨k + 1, n + n', by omega, by go_num, HF, rfl⟩, by simp [intOf]; omega⟩
        · have hl' : (FloatKind.f32.format.order x 0 == some .lt) = true := hl
          have HF : Hid (okTo 4 zs 64 = false) := Lib.hid (okTo_false 4 zs (k + 1) 64 (by rw [HN.out]; simp [okCell, hl]) (by omega))
          clear hl
          go_wp2_with (go_at_call 59; refine (fine_any _ _).mono ?_; rw [hf]; rintro e w' ⟨rfl, n', rfl⟩)
          go_ret
          exact ⟨by rw [HF.out]; rfl, below_drewN ((Below.refl _ _).alloc (Nat.le_refl _) _) _⟩
    · obtain rfl : k = 64 := by omega
      go_wp2
      go_ret
      exact ⟨by rw [hok.out]; rfl, below_drewN ((Below.refl _ _).alloc (Nat.le_refl _) _) _⟩

set_option maxHeartbeats 1000000 in
theorem shown_one (zs : Array Value) (hz : Floats zs) (w : World) : Calls Tryd.prog 58 #[.agg (pic 1 zs)] w fun e w' => e = .returned (.bool (okTo 1 zs 64)) ∧ Below w.heap.size w w' := by
  have HZ := Lib.hid hz
  have h0 := pic_zero 1 zs
  have HP := Lib.hid (pic_succ 1 zs)
  have hs : side 1 = true := by decide
  generalize pic 1 zs = cs at *
  clear hz
  go_enter Tryd.func58, Tryd.ntmps58
  go_wp2_with (go_at_call 51; refine (l01Side_any _ _).mono ?_; rw [hs]; rintro e w' ⟨rfl, rfl⟩)
  clear hs
  go_loopw [3] (fun i wr => ∃ k n : Nat, k ≤ 64 ∧ i = .int .i64 k ∧ Hid (okTo 1 zs k = true) ∧ wr = (w.alloc (.cells cs 41)).drewN n) (fun i _ => 64 - (intOf i).toNat)
  case atStart => exact ⟨0, 0, by omega, rfl, Lib.hid rfl, rfl⟩
  case round =>
    obtain ⟨k, n, hk, rfl, hok, rfl⟩ := hrel
    by_cases hlt : k < 64
    · obtain ⟨x, hx, hzk⟩ := HZ.out.2 k hlt
      have hc1 : cs[1 + k]? = some (.float .f32 x) := by rw [Nat.add_comm, HP.out]; exact hzk
      have HN : Hid (okTo 1 zs (k + 1) = okCell 1 k x) := Lib.hid (by rw [okTo, hok.out, bitsAt_of zs k x hzk]; rfl)
      clear hzk
      cases hf : fin x
      · have HF : Hid (okTo 1 zs 64 = false) := Lib.hid (okTo_false 1 zs (k + 1) 64 (by rw [HN.out]; simp [okCell, hf]) (by omega))
        go_wp2_with (go_at_call 59; refine (fine_any _ _).mono ?_; rw [hf]; rintro e w' ⟨rfl, n', rfl⟩)
        go_ret
        exact ⟨by rw [HF.out]; rfl, below_drewN ((Below.refl _ _).alloc (Nat.le_refl _) _) _⟩
      · cases hl : ltz x
        · have hl' : (FloatKind.f32.format.order x 0 == some .lt) = false := hl
          by_cases hkn : k < 1
          · have HF : Hid (okTo 1 zs (k + 1) = true) := Lib.hid (by rw [HN.out]; simp [okCell, hf, hl, hkn])
            clear hl
            go_wp2_with (go_at_call 59; refine (fine_any _ _).mono ?_; rw [hf]; rintro e w' ⟨rfl, n', rfl⟩)
            refine ⟨⟨k + 1, n + n', by omega, by go_num, HF, rfl⟩, by simp [intOf]; omega⟩
          · cases he : eqz x
            · have he' : (FloatKind.f32.format.order x 0 == some .eq) = false := he
              have he2 : (FloatKind.f32.format.order x 0 != some .eq) = true := by rw [bne, he']; rfl
              have HF : Hid (okTo 1 zs 64 = false) := Lib.hid (okTo_false 1 zs (k + 1) 64 (by rw [HN.out]; simp [okCell, hf, hl, hkn, he]) (by omega))
              clear hl he
              go_wp2_with (go_at_call 59; refine (fine_any _ _).mono ?_; rw [hf]; rintro e w' ⟨rfl, n', rfl⟩)
              go_ret
              exact ⟨by rw [HF.out]; rfl, below_drewN ((Below.refl _ _).alloc (Nat.le_refl _) _) _⟩
            · have he' : (FloatKind.f32.format.order x 0 == some .eq) = true := he
              have he2 : (FloatKind.f32.format.order x 0 != some .eq) = false := by rw [bne, he']; rfl
              have HF : Hid (okTo 1 zs (k + 1) = true) := Lib.hid (by rw [HN.out]; simp [okCell, hf, hl, he])
              clear hl he
              go_wp2_with (go_at_call 59; refine (fine_any _ _).mono ?_; rw [hf]; rintro e w' ⟨rfl, n', rfl⟩)
              refine ⟨⟨k + 1, n + n', by omega, by go_num, HF, rfl⟩, by simp [intOf]; omega⟩
        · have hl' : (FloatKind.f32.format.order x 0 == some .lt) = true := hl
          have HF : Hid (okTo 1 zs 64 = false) := Lib.hid (okTo_false 1 zs (k + 1) 64 (by rw [HN.out]; simp [okCell, hl]) (by omega))
          clear hl
          go_wp2_with (go_at_call 59; refine (fine_any _ _).mono ?_; rw [hf]; rintro e w' ⟨rfl, n', rfl⟩)
          go_ret
          exact ⟨by rw [HF.out]; rfl, below_drewN ((Below.refl _ _).alloc (Nat.le_refl _) _) _⟩
    · obtain rfl : k = 64 := by omega
      go_wp2
      go_ret
      exact ⟨by rw [hok.out]; rfl, below_drewN ((Below.refl _ _).alloc (Nat.le_refl _) _) _⟩

set_option maxHeartbeats 1000000 in
theorem shown_four (zs : Array Value) (hz : Floats zs) (w : World) : Calls Tryd.prog 58 #[.agg (pic 4 zs)] w fun e w' => e = .returned (.bool (okTo 16 zs 64)) ∧ Below w.heap.size w w' := by
  have HZ := Lib.hid hz
  have h0 := pic_zero 4 zs
  have HP := Lib.hid (pic_succ 4 zs)
  have hs : side 4 = true := by decide
  generalize pic 4 zs = cs at *
  clear hz
  go_enter Tryd.func58, Tryd.ntmps58
  go_wp2_with (go_at_call 51; refine (l01Side_any _ _).mono ?_; rw [hs]; rintro e w' ⟨rfl, rfl⟩)
  clear hs
  go_loopw [3] (fun i wr => ∃ k n : Nat, k ≤ 64 ∧ i = .int .i64 k ∧ Hid (okTo 16 zs k = true) ∧ wr = (w.alloc (.cells cs 41)).drewN n) (fun i _ => 64 - (intOf i).toNat)
  case atStart => exact ⟨0, 0, by omega, rfl, Lib.hid rfl, rfl⟩
  case round =>
    obtain ⟨k, n, hk, rfl, hok, rfl⟩ := hrel
    by_cases hlt : k < 64
    · obtain ⟨x, hx, hzk⟩ := HZ.out.2 k hlt
      have hc1 : cs[1 + k]? = some (.float .f32 x) := by rw [Nat.add_comm, HP.out]; exact hzk
      have HN : Hid (okTo 16 zs (k + 1) = okCell 16 k x) := Lib.hid (by rw [okTo, hok.out, bitsAt_of zs k x hzk]; rfl)
      clear hzk
      cases hf : fin x
      · have HF : Hid (okTo 16 zs 64 = false) := Lib.hid (okTo_false 16 zs (k + 1) 64 (by rw [HN.out]; simp [okCell, hf]) (by omega))
        go_wp2_with (go_at_call 59; refine (fine_any _ _).mono ?_; rw [hf]; rintro e w' ⟨rfl, n', rfl⟩)
        go_ret
        exact ⟨by rw [HF.out]; rfl, below_drewN ((Below.refl _ _).alloc (Nat.le_refl _) _) _⟩
      · cases hl : ltz x
        · have hl' : (FloatKind.f32.format.order x 0 == some .lt) = false := hl
          by_cases hkn : k < 16
          · have HF : Hid (okTo 16 zs (k + 1) = true) := Lib.hid (by rw [HN.out]; simp [okCell, hf, hl, hkn])
            clear hl
            go_wp2_with (go_at_call 59; refine (fine_any _ _).mono ?_; rw [hf]; rintro e w' ⟨rfl, n', rfl⟩)
            refine ⟨⟨k + 1, n + n', by omega, by go_num, HF, rfl⟩, by simp [intOf]; omega⟩
          · cases he : eqz x
            · have he' : (FloatKind.f32.format.order x 0 == some .eq) = false := he
              have he2 : (FloatKind.f32.format.order x 0 != some .eq) = true := by rw [bne, he']; rfl
              have HF : Hid (okTo 16 zs 64 = false) := Lib.hid (okTo_false 16 zs (k + 1) 64 (by rw [HN.out]; simp [okCell, hf, hl, hkn, he]) (by omega))
              clear hl he
              go_wp2_with (go_at_call 59; refine (fine_any _ _).mono ?_; rw [hf]; rintro e w' ⟨rfl, n', rfl⟩)
              go_ret
              exact ⟨by rw [HF.out]; rfl, below_drewN ((Below.refl _ _).alloc (Nat.le_refl _) _) _⟩
            · have he' : (FloatKind.f32.format.order x 0 == some .eq) = true := he
              have he2 : (FloatKind.f32.format.order x 0 != some .eq) = false := by rw [bne, he']; rfl
              have HF : Hid (okTo 16 zs (k + 1) = true) := Lib.hid (by rw [HN.out]; simp [okCell, hf, hl, he])
              clear hl he
              go_wp2_with (go_at_call 59; refine (fine_any _ _).mono ?_; rw [hf]; rintro e w' ⟨rfl, n', rfl⟩)
              refine ⟨⟨k + 1, n + n', by omega, by go_num, HF, rfl⟩, by simp [intOf]; omega⟩
        · have hl' : (FloatKind.f32.format.order x 0 == some .lt) = true := hl
          have HF : Hid (okTo 16 zs 64 = false) := Lib.hid (okTo_false 16 zs (k + 1) 64 (by rw [HN.out]; simp [okCell, hl]) (by omega))
          clear hl
          go_wp2_with (go_at_call 59; refine (fine_any _ _).mono ?_; rw [hf]; rintro e w' ⟨rfl, n', rfl⟩)
          go_ret
          exact ⟨by rw [HF.out]; rfl, below_drewN ((Below.refl _ _).alloc (Nat.le_refl _) _) _⟩
    · obtain rfl : k = 64 := by omega
      go_wp2
      go_ret
      exact ⟨by rw [hok.out]; rfl, below_drewN ((Below.refl _ _).alloc (Nat.le_refl _) _) _⟩

set_option maxHeartbeats 1000000 in
theorem shown_eight (zs : Array Value) (hz : Floats zs) (w : World) : Calls Tryd.prog 58 #[.agg (pic 8 zs)] w fun e w' => e = .returned (.bool (okTo 64 zs 64)) ∧ Below w.heap.size w w' := by
  have HZ := Lib.hid hz
  have h0 := pic_zero 8 zs
  have HP := Lib.hid (pic_succ 8 zs)
  have hs : side 8 = true := by decide
  generalize pic 8 zs = cs at *
  clear hz
  go_enter Tryd.func58, Tryd.ntmps58
  go_wp2_with (go_at_call 51; refine (l01Side_any _ _).mono ?_; rw [hs]; rintro e w' ⟨rfl, rfl⟩)
  clear hs
  go_loopw [3] (fun i wr => ∃ k n : Nat, k ≤ 64 ∧ i = .int .i64 k ∧ Hid (okTo 64 zs k = true) ∧ wr = (w.alloc (.cells cs 41)).drewN n) (fun i _ => 64 - (intOf i).toNat)
  case atStart => exact ⟨0, 0, by omega, rfl, Lib.hid rfl, rfl⟩
  case round =>
    obtain ⟨k, n, hk, rfl, hok, rfl⟩ := hrel
    by_cases hlt : k < 64
    · obtain ⟨x, hx, hzk⟩ := HZ.out.2 k hlt
      have hc1 : cs[1 + k]? = some (.float .f32 x) := by rw [Nat.add_comm, HP.out]; exact hzk
      have HN : Hid (okTo 64 zs (k + 1) = okCell 64 k x) := Lib.hid (by rw [okTo, hok.out, bitsAt_of zs k x hzk]; rfl)
      clear hzk
      cases hf : fin x
      · have HF : Hid (okTo 64 zs 64 = false) := Lib.hid (okTo_false 64 zs (k + 1) 64 (by rw [HN.out]; simp [okCell, hf]) (by omega))
        go_wp2_with (go_at_call 59; refine (fine_any _ _).mono ?_; rw [hf]; rintro e w' ⟨rfl, n', rfl⟩)
        go_ret
        exact ⟨by rw [HF.out]; rfl, below_drewN ((Below.refl _ _).alloc (Nat.le_refl _) _) _⟩
      · cases hl : ltz x
        · have hl' : (FloatKind.f32.format.order x 0 == some .lt) = false := hl
          by_cases hkn : k < 64
          · have HF : Hid (okTo 64 zs (k + 1) = true) := Lib.hid (by rw [HN.out]; simp [okCell, hf, hl, hkn])
            clear hl
            go_wp2_with (go_at_call 59; refine (fine_any _ _).mono ?_; rw [hf]; rintro e w' ⟨rfl, n', rfl⟩)
            refine ⟨⟨k + 1, n + n', by omega, by go_num, HF, rfl⟩, by simp [intOf]; omega⟩
          · exact absurd hlt hkn
        · have hl' : (FloatKind.f32.format.order x 0 == some .lt) = true := hl
          have HF : Hid (okTo 64 zs 64 = false) := Lib.hid (okTo_false 64 zs (k + 1) 64 (by rw [HN.out]; simp [okCell, hl]) (by omega))
          clear hl
          go_wp2_with (go_at_call 59; refine (fine_any _ _).mono ?_; rw [hf]; rintro e w' ⟨rfl, n', rfl⟩)
          go_ret
          exact ⟨by rw [HF.out]; rfl, below_drewN ((Below.refl _ _).alloc (Nat.le_refl _) _) _⟩
    · obtain rfl : k = 64 := by omega
      go_wp2
      go_ret
      exact ⟨by rw [hok.out]; rfl, below_drewN ((Below.refl _ _).alloc (Nat.le_refl _) _) _⟩

theorem shown_any (s : Int) (zs : Array Value) (hz : Floats zs) (w : World) : Calls Tryd.prog 58 #[.agg (pic s zs)] w fun e w' => e = .returned (.bool (shown s zs)) ∧ Below w.heap.size w w' := by
  unfold shown
  cases h : side s
  · exact shown_no s zs h w
  · rcases side_yes s h with rfl | rfl | rfl | rfl
    · exact shown_one zs hz w
    · exact shown_two zs hz w
    · exact shown_four zs hz w
    · exact shown_eight zs hz w

end Go.Proofs.YtclflnpbiiimiaaDoor
