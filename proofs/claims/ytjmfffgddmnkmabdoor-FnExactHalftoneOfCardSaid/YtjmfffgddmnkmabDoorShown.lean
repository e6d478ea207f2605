/- The model's way to ask whether something is a picture. Condition: 64 floats. -/
import Derived.Test.YtjmfffgddmnkmabDoorSide
import Derived.Test.YtjmfffgddmnkmabDoorPicI
namespace Go.Proofs.YtjmfffgddmnkmabDoor
open Go Go.RowKit

def bitsOf : Value → Nat
  | .float _ b => b
  | _ => 0
def bitsAt (zs : Array Value) (k : Nat) : Nat := bitsOf (zs.getD k undef)
def ltz (x : Nat) : Bool := FloatKind.f32.format.order x 0 == some .lt
def eqz (x : Nat) : Bool := FloatKind.f32.format.order x 0 == some .eq
/-- may the k-th level of a picture with n cells be these bits? -/
def okCell (n k x : Nat) : Bool := fin x && !ltz x && (decide (k < n) || eqz x)
/-- are the first k levels as they have to be? -/
def okTo (n : Nat) (zs : Array Value) : Nat → Bool
  | 0 => true
  | k + 1 => okTo n zs k && okCell n k (bitsAt zs k)
def shown (s : Int) (zs : Array Value) : Bool := side s && okTo (s * s).toNat zs 64

theorem bitsAt_of (zs : Array Value) (k x : Nat) (h : zs[k]? = some (.float .f32 x)) : bitsAt zs k = x := by
  unfold bitsAt
  rw [Array.getD_eq_getD_getElem?, h]
  rfl

theorem okTo_false (n : Nat) (zs : Array Value) (k m : Nat) (h : okTo n zs k = false) (hm : k ≤ m) : okTo n zs m = false := by
  induction m with
  | zero => obtain rfl : k = 0 := by omega
            exact h
  | succ m ih =>
    by_cases h1 : k = m + 1
    · subst h1; exact h
    · rw [okTo, ih (by omega)]; rfl

set_option maxHeartbeats 400000 in
theorem shown_no (s : Int) (zs : Array Value) (h : side s = false) (w : World) : Calls Tryd.prog 25 #[.agg (pic s zs)] w fun e w' => e = .returned (.bool false) ∧ Below w.heap.size w w' := by
  have h0 := pic_zero s zs
  generalize pic s zs = cs at *
  go_enter Tryd.func25, Tryd.ntmps25
  go_wp2_with (go_at_call 49; refine (l01Side_any _ _).mono ?_; rw [h]; rintro e w' ⟨rfl, rfl⟩)
  go_ret
  exact ⟨rfl, (Below.refl _ _).alloc (Nat.le_refl _) _⟩

set_option maxHeartbeats 1000000 in
theorem shown_two (zs : Array Value) (hz : Floats zs) (w : World) : Calls Tryd.prog 25 #[.agg (pic 2 zs)] w fun e w' => e = .returned (.bool (okTo 4 zs 64)) ∧ Below w.heap.size w w' := by
  have HZ := Lib.hid hz
  have h0 := pic_zero 2 zs
  have HP := Lib.hid (pic_succ 2 zs)
  have hs : side 2 = true := by decide
  generalize pic 2 zs = cs at *
  clear hz
  go_enter Tryd.func25, Tryd.ntmps25
  go_wp2_with (go_at_call 49; refine (l01Side_any _ _).mono ?_; rw [hs]; rintro e w' ⟨rfl, rfl⟩)
  clear hs
  go_loopw [3] (fun i wr => ∃ k n : Nat, k ≤ 64 ∧ i = .int .i64 k ∧ Hid (okTo 4 zs k = true) ∧ wr = (w.alloc (.cells cs 36)).drewN n) (fun i _ => 64 - (intOf i).toNat)
  case atStart => exact ⟨0, 0, by omega, rfl, Lib.hid rfl, rfl⟩
  case round =>
    obtain ⟨k, n, hk, rfl, hok, rfl⟩ := hrel
    by_cases hlt : k < 64
    · obtain ⟨x, hx, hzk⟩ := HZ.out.2 k hlt
      have hc1 : cs[1 + k]? = some (.float .f32 x) := by rw [Nat.add_comm, HP.out]; exact hzk
      have HN : Hid (okTo 4 zs (k + 1) = okCell 4 k x) := Lib.hid (by rw [okTo, hok.out, bitsAt_of zs k x hzk]; rfl)
      clear hzk
      cases hf : fin x
      · have HF : Hid (okTo 4 zs 64 = false) := Lib.hid (okTo_false 4 zs (k + 1) 64 (by rw [HN.out]; simp [okCell, hf]) (by omega))
        go_wp2_with (go_at_call 27; refine (fine_any _ _).mono ?_; rw [hf]; rintro e w' ⟨rfl, n', rfl⟩)
        go_ret
        exact ⟨by rw [HF.out]; rfl, below_drewN ((Below.refl _ _).alloc (Nat.le_refl _) _) _⟩
      · cases hl : ltz x
        · have hl' : (FloatKind.f32.format.order x 0 == some .lt) = false := hl
          by_cases hkn : k < 4
          · have HF : Hid (okTo 4 zs (k + 1) = true) := Lib.hid (by rw [HN.out]; simp [okCell, hf, hl, hkn])
            clear hl
            go_wp2_with (go_at_call 27; refine (fine_any _ _).mono ?_; rw [hf]; rintro e w' ⟨rfl, n', rfl⟩)
            refine ⟨⟨k + 1, n + n', by omega, by go_num, HF, rfl⟩, by simp [intOf]; omega⟩
          · cases he : eqz x
            · have he' : (FloatKind.f32.format.order x 0 == some .eq) = false := he
              have he2 : (FloatKind.f32.format.order x 0 != some .eq) = true := by rw [bne, he']; rfl
              have HF : Hid (okTo 4 zs 64 = false) := Lib.hid (okTo_false 4 zs (k + 1) 64 (by rw [HN.out]; simp [okCell, hf, hl, hkn, he]) (by omega))
              clear hl he
              go_wp2_with (go_at_call 27; refine (fine_any _ _).mono ?_; rw [hf]; rintro e w' ⟨rfl, n', rfl⟩)
              go_ret
              exact ⟨by rw [HF.out]; rfl, below_drewN ((Below.refl _ _).alloc (Nat.le_refl _) _) _⟩
            · have he' : (FloatKind.f32.format.order x 0 == some .eq) = true := he
              have he2 : (FloatKind.f32.format.order x 0 != some .eq) = false := by rw [bne, he']; rfl
              have HF : Hid (okTo 4 zs (k + 1) = true) := Lib.hid (by rw [HN.out]; simp [okCell, hf, hl, he])
              clear hl he
              go_wp2_with (go_at_call 27; refine (fine_any _ _).mono ?_; rw [hf]; rintro e w' ⟨rfl, n', rfl⟩)
              refine ⟨⟨k + 1, n + n', by omega, by go_num, HF, rfl⟩, by simp [intOf]; omega⟩
        · have hl' : (FloatKind.f32.format.order x 0 == some .lt) = true := hl
          have HF : Hid (okTo 4 zs 64 = false) := Lib.hid (okTo_false 4 zs (k + 1) 64 (by rw [HN.out]; simp [okCell, hl]) (by omega))
          clear hl
          go_wp2_with (go_at_call 27; refine (fine_any _ _).mono ?_; rw [hf]; rintro e w' ⟨rfl, n', rfl⟩)
          go_ret
          exact ⟨by rw [HF.out]; rfl, below_drewN ((Below.refl _ _).alloc (Nat.le_refl _) _) _⟩
    · obtain rfl : k = 64 := by omega
      go_wp2
      go_ret
      exact ⟨by rw [hok.out]; rfl, below_drewN ((Below.refl _ _).alloc (Nat.le_refl _) _) _⟩

set_option maxHeartbeats 1000000 in
theorem shown_one (zs : Array Value) (hz : Floats zs) (w : World) : Calls Tryd.prog 25 #[.agg (pic 1 zs)] w fun e w' => e = .returned (.bool (okTo 1 zs 64)) ∧ Below w.heap.size w w' := by
  have HZ := Lib.hid hz
  have h0 := pic_zero 1 zs
  have HP := Lib.hid (pic_succ 1 zs)
  have hs : side 1 = true := by decide
  generalize pic 1 zs = cs at *
  clear hz
  go_enter Tryd.func25, Tryd.ntmps25
  go_wp2_with (go_at_call 49; refine (l01Side_any _ _).mono ?_; rw [hs]; rintro e w' ⟨rfl, rfl⟩)
  clear hs
  go_loopw [3] (fun i wr => ∃ k n : Nat, k ≤ 64 ∧ i = .int .i64 k ∧ Hid (okTo 1 zs k = true) ∧ wr = (w.alloc (.cells cs 36)).drewN n) (fun i _ => 64 - (intOf i).toNat)
  case atStart => exact ⟨0, 0, by omega, rfl, Lib.hid rfl, rfl⟩
  case round =>
    obtain ⟨k, n, hk, rfl, hok, rfl⟩ := hrel
    by_cases hlt : k < 64
    · obtain ⟨x, hx, hzk⟩ := HZ.out.2 k hlt
      have hc1 : cs[1 + k]? = some (.float .f32 x) := by rw [Nat.add_comm, HP.out]; exact hzk
      have HN : Hid (okTo 1 zs (k + 1) = okCell 1 k x) := Lib.hid (by rw [okTo, hok.out, bitsAt_of zs k x hzk]; rfl)
      clear hzk
      cases hf : fin x
      · have HF : Hid (okTo 1 zs 64 = false) := Lib.hid (okTo_false 1 zs (k + 1) 64 (by rw [HN.out]; simp [okCell, hf]) (by omega))
        go_wp2_with (go_at_call 27; refine (fine_any _ _).mono ?_; rw [hf]; rintro e w' ⟨rfl, n', rfl⟩)
        go_ret
        exact ⟨by rw [HF.out]; rfl, below_drewN ((Below.refl _ _).alloc (Nat.le_refl _) _) _⟩
      · cases hl : ltz x
        · have hl' : (FloatKind.f32.format.order x 0 == some .lt) = false := hl
          by_cases hkn : k < 1
          · have HF : Hid (okTo 1 zs (k + 1) = true) := Lib.hid (by rw [HN.out]; simp [okCell, hf, hl, hkn])
            clear hl
            go_wp2_with (go_at_call 27; refine (fine_any _ _).mono ?_; rw [hf]; rintro e w' ⟨rfl, n', rfl⟩)
            refine ⟨⟨k + 1, n + n', by omega, by go_num, HF, rfl⟩, by simp [intOf]; omega⟩
          · cases he : eqz x
            · have he' : (FloatKind.f32.format.order x 0 == some .eq) = false := he
              have he2 : (FloatKind.f32.format.order x 0 != some .eq) = true := by rw [bne, he']; rfl
              have HF : Hid (okTo 1 zs 64 = false) := Lib.hid (okTo_false 1 zs (k + 1) 64 (by rw [HN.out]; simp [okCell, hf, hl, hkn, he]) (by omega))
              clear hl he
              go_wp2_with (go_at_call 27; refine (fine_any _ _).mono ?_; rw [hf]; rintro e w' ⟨rfl, n', rfl⟩)
              go_ret
              exact ⟨by rw [HF.out]; rfl, below_drewN ((Below.refl _ _).alloc (Nat.le_refl _) _) _⟩
            · have he' : (FloatKind.f32.format.order x 0 == some .eq) = true := he
              have he2 : (FloatKind.f32.format.order x 0 != some .eq) = false := by rw [bne, he']; rfl
              have HF : Hid (okTo 1 zs (k + 1) = true) := Lib.hid (by rw [HN.out]; simp [okCell, hf, hl, he])
              clear hl he
              go_wp2_with (go_at_call 27; refine (fine_any _ _).mono ?_; rw [hf]; rintro e w' ⟨rfl, n', rfl⟩)
              refine ⟨⟨k + 1, n + n', by omega, by go_num, HF, rfl⟩, by simp [intOf]; omega⟩
        · have hl' : (FloatKind.f32.format.order x 0 == some .lt) = true := hl
          have HF : Hid (okTo 1 zs 64 = false) := Lib.hid (okTo_false 1 zs (k + 1) 64 (by rw [HN.out]; simp [okCell, hl]) (by omega))
          clear hl
          go_wp2_with (go_at_call 27; refine (fine_any _ _).mono ?_; rw [hf]; rintro e w' ⟨rfl, n', rfl⟩)
          go_ret
          exact ⟨by rw [HF.out]; rfl, below_drewN ((Below.refl _ _).alloc (Nat.le_refl _) _) _⟩
    · obtain rfl : k = 64 := by omega
      go_wp2
      go_ret
      exact ⟨by rw [hok.out]; rfl, below_drewN ((Below.refl _ _).alloc (Nat.le_refl _) _) _⟩

set_option maxHeartbeats 1000000 in
theorem shown_four (zs : Array Value) (hz : Floats zs) (w : World) : Calls Tryd.prog 25 #[.agg (pic 4 zs)] w fun e w' => e = .returned (.bool (okTo 16 zs 64)) ∧ Below w.heap.size w w' := by
  have HZ := Lib.hid hz
  have h0 := pic_zero 4 zs
  have HP := Lib.hid (pic_succ 4 zs)
  have hs : side 4 = true := by decide
  generalize pic 4 zs = cs at *
  clear hz
  go_enter Tryd.func25, Tryd.ntmps25
  go_wp2_with (go_at_call 49; refine (l01Side_any _ _).mono ?_; rw [hs]; rintro e w' ⟨rfl, rfl⟩)
  clear hs
  go_loopw [3] (fun i wr => ∃ k n : Nat, k ≤ 64 ∧ i = .int .i64 k ∧ Hid (okTo 16 zs k = true) ∧ wr = (w.alloc (.cells cs 36)).drewN n) (fun i _ => 64 - (intOf i).toNat)
  case atStart => exact ⟨0, 0, by omega, rfl, Lib.hid rfl, rfl⟩
  case round =>
    obtain ⟨k, n, hk, rfl, hok, rfl⟩ := hrel
    by_cases hlt : k < 64
    · obtain ⟨x, hx, hzk⟩ := HZ.out.2 k hlt
      have hc1 : cs[1 + k]? = some (.float .f32 x) := by rw [Nat.add_comm, HP.out]; exact hzk
      have HN : Hid (okTo 16 zs (k + 1) = okCell 16 k x) := Lib.hid (by rw [okTo, hok.out, bitsAt_of zs k x hzk]; rfl)
      clear hzk
      cases hf : fin x
      · have HF : Hid (okTo 16 zs 64 = false) := Lib.hid (okTo_false 16 zs (k + 1) 64 (by rw [HN.out]; simp [okCell, hf]) (by omega))
        go_wp2_with (go_at_call 27; refine (fine_any _ _).mono ?_; rw [hf]; rintro e w' ⟨rfl, n', rfl⟩)
        go_ret
        exact ⟨by rw [HF.out]; rfl, below_drewN ((Below.refl _ _).alloc (Nat.le_refl _) _) _⟩
      · cases hl : ltz x
        · have hl' : (FloatKind.f32.format.order x 0 == some .lt) = false := hl
          by_cases hkn : k < 16
          · have HF : Hid (okTo 16 zs (k + 1) = true) := Lib.hid (by rw [HN.out]; simp [okCell, hf, hl, hkn])
            clear hl
            go_wp2_with (go_at_call 27; refine (fine_any _ _).mono ?_; rw [hf]; rintro e w' ⟨rfl, n', rfl⟩)
            refine ⟨⟨k + 1, n + n', by omega, by go_num, HF, rfl⟩, by simp [intOf]; omega⟩
          · cases he : eqz x
            · have he' : (FloatKind.f32.format.order x 0 == some .eq) = false := he
              have he2 : (FloatKind.f32.format.order x 0 != some .eq) = true := by rw [bne, he']; rfl
              have HF : Hid (okTo 16 zs 64 = false) := Lib.hid (okTo_false 16 zs (k + 1) 64 (by rw [HN.out]; simp [okCell, hf, hl, hkn, he]) (by omega))
              clear hl he
              go_wp2_with (go_at_call 27; refine (fine_any _ _).mono ?_; rw [hf]; rintro e w' ⟨rfl, n', rfl⟩)
              go_ret
              exact ⟨by rw [HF.out]; rfl, below_drewN ((Below.refl _ _).alloc (Nat.le_refl _) _) _⟩
            · have he' : (FloatKind.f32.format.order x 0 == some .eq) = true := he
              have he2 : (FloatKind.f32.format.order x 0 != some .eq) = false := by rw [bne, he']; rfl
              have HF : Hid (okTo 16 zs (k + 1) = true) := Lib.hid (by rw [HN.out]; simp [okCell, hf, hl, he])
              clear hl he
              go_wp2_with (go_at_call 27; refine (fine_any _ _).mono ?_; rw [hf]; rintro e w' ⟨rfl, n', rfl⟩)
              refine ⟨⟨k + 1, n + n', by omega, by go_num, HF, rfl⟩, by simp [intOf]; omega⟩
        · have hl' : (FloatKind.f32.format.order x 0 == some .lt) = true := hl
          have HF : Hid (okTo 16 zs 64 = false) := Lib.hid (okTo_false 16 zs (k + 1) 64 (by rw [HN.out]; simp [okCell, hl]) (by omega))
          clear hl
          go_wp2_with (go_at_call 27; refine (fine_any _ _).mono ?_; rw [hf]; rintro e w' ⟨rfl, n', rfl⟩)
          go_ret
          exact ⟨by rw [HF.out]; rfl, below_drewN ((Below.refl _ _).alloc (Nat.le_refl _) _) _⟩
    · obtain rfl : k = 64 := by omega
      go_wp2
      go_ret
      exact ⟨by rw [hok.out]; rfl, below_drewN ((Below.refl _ _).alloc (Nat.le_refl _) _) _⟩

set_option maxHeartbeats 1000000 in
theorem shown_eight (zs : Array Value) (hz : Floats zs) (w : World) : Calls Tryd.prog 25 #[.agg (pic 8 zs)] w fun e w' => e = .returned (.bool (okTo 64 zs 64)) ∧ Below w.heap.size w w' := by
  have HZ := Lib.hid hz
  have h0 := pic_zero 8 zs
  have HP := Lib.hid (pic_succ 8 zs)
  have hs : side 8 = true := by decide
  generalize pic 8 zs = cs at *
  clear hz
  go_enter Tryd.func25, Tryd.ntmps25
  go_wp2_with (go_at_call 49; refine (l01Side_any _ _).mono ?_; rw [hs]; rintro e w' ⟨rfl, rfl⟩)
  clear hs
  go_loopw [3] (fun i wr => ∃ k n : Nat, k ≤ 64 ∧ i = .int .i64 k ∧ Hid (okTo 64 zs k = true) ∧ wr = (w.alloc (.cells cs 36)).drewN n) (fun i _ => 64 - (intOf i).toNat)
  case atStart => exact ⟨0, 0, by omega, rfl, Lib.hid rfl, rfl⟩
  case round =>
    obtain ⟨k, n, hk, rfl, hok, rfl⟩ := hrel
    by_cases hlt : k < 64
    · obtain ⟨x, hx, hzk⟩ := HZ.out.2 k hlt
      have hc1 : cs[1 + k]? = some (.float .f32 x) := by rw [Nat.add_comm, HP.out]; exact hzk
      have HN : Hid (okTo 64 zs (k + 1) = okCell 64 k x) := Lib.hid (by rw [okTo, hok.out, bitsAt_of zs k x hzk]; rfl)
      clear hzk
      cases hf : fin x
      · have HF : Hid (okTo 64 zs 64 = false) := Lib.hid (okTo_false 64 zs (k + 1) 64 (by rw [HN.out]; simp [okCell, hf]) (by omega))
        go_wp2_with (go_at_call 27; refine (fine_any _ _).mono ?_; rw [hf]; rintro e w' ⟨rfl, n', rfl⟩)
        go_ret
        exact ⟨by rw [HF.out]; rfl, below_drewN ((Below.refl _ _).alloc (Nat.le_refl _) _) _⟩
      · cases hl : ltz x
        · have hl' : (FloatKind.f32.format.order x 0 == some .lt) = false := hl
          by_cases hkn : k < 64
          · have HF : Hid (okTo 64 zs (k + 1) = true) := Lib.hid (by rw [HN.out]; simp [okCell, hf, hl, hkn])
            clear hl
            go_wp2_with (go_at_call 27; refine (fine_any _ _).mono ?_; rw [hf]; rintro e w' ⟨rfl, n', rfl⟩)
            refine ⟨⟨k + 1, n + n', by omega, by go_num, HF, rfl⟩, by simp [intOf]; omega⟩
          · exact absurd hlt hkn
        · have hl' : (FloatKind.f32.format.order x 0 == some .lt) = true := hl
          have HF : Hid (okTo 64 zs 64 = false) := Lib.hid (okTo_false 64 zs (k + 1) 64 (by rw [HN.out]; simp [okCell, hl]) (by omega))
          clear hl
          go_wp2_with (go_at_call 27; refine (fine_any _ _).mono ?_; rw [hf]; rintro e w' ⟨rfl, n', rfl⟩)
          go_ret
          exact ⟨by rw [HF.out]; rfl, below_drewN ((Below.refl _ _).alloc (Nat.le_refl _) _) _⟩
    · obtain rfl : k = 64 := by omega
      go_wp2
      go_ret
      exact ⟨by rw [hok.out]; rfl, below_drewN ((Below.refl _ _).alloc (Nat.le_refl _) _) _⟩

theorem shown_any (s : Int) (zs : Array Value) (hz : Floats zs) (w : World) : Calls Tryd.prog 25 #[.agg (pic s zs)] w fun e w' => e = .returned (.bool (shown s zs)) ∧ Below w.heap.size w w' := by
  unfold shown
  cases h : side s
  · exact shown_no s zs h w
  · rcases side_yes s h with rfl | rfl | rfl | rfl
    · exact shown_one zs hz w
    · exact shown_two zs hz w
    · exact shown_four zs hz w
    · exact shown_eight zs hz w

end Go.Proofs.YtjmfffgddmnkmabDoor
