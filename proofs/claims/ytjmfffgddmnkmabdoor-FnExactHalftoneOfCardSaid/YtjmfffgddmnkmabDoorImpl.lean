/- The program's way to ask whether something is a picture answers as the model's. Condition: 64 floats. -/
import Derived.Test.YtjmfffgddmnkmabDoorEq
import Derived.Test.YtjmfffgddmnkmabDoorShown
namespace Go.Proofs.YtjmfffgddmnkmabDoor
open Go Go.RowKit

/-- the first k cells made zeros -/
def zto (zs : Array Value) (k : Nat) : Array Value := Array.ofFn (n := 64) fun i => if i.val < k then .float .f32 0 else zs.getD i.val undef
theorem zto_get (zs : Array Value) (k i : Nat) : (zto zs k)[i]? = if i < 64 then some (if i < k then .float .f32 0 else zs.getD i undef) else none := by
  simp only [zto, Array.getElem?_ofFn]
  by_cases h : i < 64 <;> simp [h]
theorem zto_size (zs : Array Value) (k : Nat) : (zto zs k).size = 64 := by simp [zto]
theorem zto_zero (zs : Array Value) (hz : Floats zs) : zto zs 0 = zs := by
  apply Array.ext_getElem?
  intro i
  rw [zto_get]
  by_cases h : i < 64
  · obtain ⟨x, _, hx⟩ := hz.2 i h
    simp [h, hx]
  · rw [if_neg h, Array.getElem?_eq_none (by have := hz.1; omega)]
theorem pic_zto (s : Int) (zs : Array Value) (k : Nat) (hk : k < 64) : (pic s (zto zs k)).setIfInBounds (1 + k) (.float .f32 0) = pic s (zto zs (k + 1)) := by
  apply Array.ext_getElem?
  intro i
  rw [Array.getElem?_setIfInBounds, pic_size _ _ (zto_size zs k)]
  cases i with
  | zero => rw [if_neg (by omega), pic_zero, pic_zero]
  | succ i =>
    rw [pic_succ, pic_succ, zto_get, zto_get]
    by_cases h1 : 1 + k = i + 1
    · obtain rfl : k = i := by omega
      simp [hk, show 1 + k = k + 1 by omega]
    · rw [if_neg h1]
      by_cases h2 : i < k
      · simp [h2, show i < k + 1 by omega]
      · simp [h2, show ¬ i < k + 1 by omega]

theorem eqz_fin (x : Nat) (h : eqz x = true) : fin x = true ∧ ltz x = false := by
  unfold eqz at h
  unfold ltz
  have h' : FloatKind.f32.format.order x 0 = some .eq := by simpa using h
  refine ⟨?_, by rw [h']; rfl⟩
  cases hf : fin x
  · exfalso
    have h0 : Ieee.single.read 0 = .number false 0 (-149) := by decide
    have h2 : (Ieee.single.read x).order (Ieee.single.read 0) = some .eq := h'
    rw [h0] at h2
    rcases inf_read x hf with ⟨s, hs⟩ | ⟨s, t, hs⟩
    · rw [hs] at h2
      cases s <;> simp [Ieee.Datum.order] at h2
    · rw [hs] at h2
      simp [Ieee.Datum.order] at h2
  · rfl

/-- where the first n levels are as they have to be -/
def restE (n : Nat) (zs : Array Value) (k : Nat) : Bool := decide (k < n) || eqz (bitsAt zs k)
theorem okTo_rest (n : Nat) (zs : Array Value) (h : okTo n zs n = true) (m : Nat) (hm : n ≤ m) : okTo n zs m = (List.range' 0 m).all (restE n zs) := by
  induction m with
  | zero =>
    obtain rfl : n = 0 := by omega
    rfl
  | succ m ih =>
    by_cases h1 : n = m + 1
    · subst h1
      rw [h, eq_comm, List.all_eq_true]
      intro k hk
      have : k < m + 1 := by simpa using hk
      simp [restE, this]
    · rw [okTo, ih (by omega), List.range'_1_concat, List.all_append]
      simp only [List.all_cons, List.all_nil, Bool.and_true, Nat.zero_add]
      congr 1
      have h2 : decide (m < n) = false := by simp; omega
      unfold okCell restE
      rw [h2, Bool.false_or]
      cases he : eqz (bitsAt zs m)
      · simp
      · obtain ⟨a, b⟩ := eqz_fin _ he
        simp [a, b]

theorem zto_eq (n : Nat) (zs : Array Value) (hz : Floats zs) : ∀ k, k < 64 → ∃ x y, (zto zs n)[k]? = some (.float .f32 x) ∧ zero64[k]? = some (.float .f32 y) ∧ Op.floatEq .f32 x y = restE n zs k := by
  intro k hk
  obtain ⟨x, _, hx⟩ := hz.2 k hk
  have hb := bitsAt_of zs k x hx
  have hg : zs.getD k undef = .float .f32 x := by rw [Array.getD_eq_getD_getElem?, hx]; rfl
  by_cases h : k < n
  · refine ⟨0, 0, by rw [zto_get, if_pos hk, if_pos h], by simp [zero64, hk], ?_⟩
    have : restE n zs k = true := by simp [restE, h]
    rw [this]
    decide
  · refine ⟨x, 0, by rw [zto_get, if_pos hk, if_neg h, hg], by simp [zero64, hk], ?_⟩
    unfold restE
    rw [hb, show decide (k < n) = false by simp [h], Bool.false_or]
    rfl

set_option maxHeartbeats 400000 in
theorem impl_no (s : Int) (zs : Array Value) (h : side s = false) (w : World) : Calls Tryd.prog 29 #[.agg (pic s zs)] w fun e w' => e = .returned (.bool false) ∧ Below w.heap.size w w' := by
  have h0 := pic_zero s zs
  generalize pic s zs = cs at *
  go_enter Tryd.func29, Tryd.ntmps29
  go_wp2_with (go_at_call 21; refine (isSide_any _ _).mono ?_; rw [h]; rintro e w' ⟨rfl, rfl⟩)
  go_ret
  exact ⟨rfl, (Below.refl _ _).alloc (Nat.le_refl _) _⟩

set_option maxRecDepth 100000 in
set_option maxHeartbeats 1000000 in
theorem impl_two (zs : Array Value) (hz : Floats zs) (w : World) : Calls Tryd.prog 29 #[.agg (pic 2 zs)] w fun e w' => e = .returned (.bool (okTo 4 zs 64)) ∧ Below w.heap.size w w' := by
  have HZ := Lib.hid hz
  have hz32 := (zero_of_info info32).1
  have HS : Hid ((Tryd.prog.info? 36).map (·.size) = some (pic 2 zs).size) := Lib.hid (by rw [pic_size 2 zs hz.1]; exact (zero_of_info info32).2)
  have HZS : Hid ((pic 0 zero64).size = (pic 2 zs).size) := Lib.hid (by rw [pic_size 2 zs hz.1, pic_size 0 zero64 (by simp [zero64])])
  have H1 := Lib.hid (pic_one 2 zs hz)
  have h0 := pic_zero 2 zs
  have HP := Lib.hid (pic_succ 2 zs)
  have hs : side 2 = true := by decide
  generalize hcs : pic 2 zs = cs at *
  have HCS := Lib.hid hcs
  generalize pic 0 zero64 = Z at *
  clear hz hcs
  go_enter Tryd.func29, Tryd.ntmps29
  go_wp2_with (first | (go_at_call 21; refine (isSide_any _ _).mono ?_; rw [hs]; rintro e w' ⟨rfl, rfl⟩) | (refine wpList_load_row rfl 36 (.tmp 1) rfl w.heap.size rfl 36 cs (0, 0) _ (h1_0 _ _) Tryd.underlying36 rfl HS.out ?_) | (refine wpList_store_row rfl 36 (.tmp 3) (.tmp 9) rfl (w.heap.size + 1) cs rfl rfl 36 Z (h2_1 _ _ _) HS.out HZS.out H1.out ?_; rw [setRow_al2]))
  clear hs hz32 HZS
  go_loopw [15] (fun i wr => ∃ (k n : Nat) (C : Array Value), k ≤ 4 ∧ i = .int .i64 k ∧ Hid (okTo 4 zs k = true) ∧ Hid (C = pic 2 (zto zs k)) ∧ wr = ((w.alloc (.cells cs 36)).alloc (.cells C 36)).drewN n) (fun i _ => 4 - (intOf i).toNat)
  case atStart => exact ⟨0, 0, cs, by omega, rfl, Lib.hid rfl, Lib.hid (by rw [zto_zero zs HZ.out]; exact HCS.out.symm), rfl⟩
  case round =>
    obtain ⟨k, n, C, hk, rfl, hok, HC, rfl⟩ := hrel
    by_cases hlt : k < 4
    · obtain ⟨x, hx, hzk⟩ := HZ.out.2 k (by omega)
      have hc1 : cs[1 + k]? = some (.float .f32 x) := by rw [Nat.add_comm, HP.out]; exact hzk
      have hC1 : C[1 + k]? = some (.float .f32 x) := by
        rw [HC.out, Nat.add_comm, pic_succ, zto_get, if_pos (by omega), if_neg (by omega), Array.getD_eq_getD_getElem?, hzk]; rfl
      have HN : Hid (okTo 4 zs (k + 1) = okCell 4 k x) := Lib.hid (by rw [okTo, hok.out, bitsAt_of zs k x hzk]; rfl)
      clear hzk
      cases hf : fin x
      · have HF : Hid (okTo 4 zs 64 = false) := Lib.hid (okTo_false 4 zs (k + 1) 64 (by rw [HN.out]; simp [okCell, hf]) (by omega))
        go_wp2_with (go_at_call 36; refine (finite_any _ _).mono ?_; rw [hf]; rintro e w' ⟨rfl, n', rfl⟩)
        go_ret
        exact ⟨by rw [HF.out]; rfl, below_drewN (below_al2 _ _ _) _⟩
      · cases hl : ltz x
        · have hl' : (FloatKind.f32.format.order x 0 == some .lt) = false := hl
          have HF : Hid (okTo 4 zs (k + 1) = true) := Lib.hid (by rw [HN.out]; simp [okCell, hf, hl, hlt])
          clear hl
          go_wp2_with (go_at_call 36; refine (finite_any _ _).mono ?_; rw [hf]; rintro e w' ⟨rfl, n', rfl⟩)
          rw [setCell_al2]
          exact ⟨⟨k + 1, n + n', _, by omega, by go_num, HF, Lib.hid (by rw [HC.out]; exact pic_zto 2 zs k (by omega)), rfl⟩, by simp [intOf]; omega⟩
        · have hl' : (FloatKind.f32.format.order x 0 == some .lt) = true := hl
          have HF : Hid (okTo 4 zs 64 = false) := Lib.hid (okTo_false 4 zs (k + 1) 64 (by rw [HN.out]; simp [okCell, hl]) (by omega))
          clear hl
          go_wp2_with (go_at_call 36; refine (finite_any _ _).mono ?_; rw [hf]; rintro e w' ⟨rfl, n', rfl⟩)
          go_ret
          exact ⟨by rw [HF.out]; rfl, below_drewN (below_al2 _ _ _) _⟩
    · obtain rfl : k = 4 := by omega
      have hz32 := (zero_of_info info32).1
      have hne : ¬ pic 0 zero64 = #[] := fun e => by
        have := congrArg Array.size e
        rw [pic_size 0 zero64 (by simp [zero64])] at this
        simp at this
      have heq : ∀ w, (binOp .eql 36 (.agg C) (.agg ((pic 0 zero64).setIfInBounds 0 (.int .i64 2)))).run Tryd.prog w = .ok (.bool (okTo 4 zs 64)) w := fun w => by
        rw [pic_set0, HC.out, run_eq32 2 (zto zs 4) zero64 (zto_size _ _) (by simp [zero64]) (restE 4 zs) (zto_eq 4 zs HZ.out) w, ← okTo_rest 4 zs hok.out 64 (by omega)]
      have HH : Hid ((((w.alloc (.cells cs 36)).alloc (.cells C 36)).drewN n).heap[w.heap.size + 1]? = some (.cells C 36)) := Lib.hid (h2_1 _ _ _)
      have HC32 : Hid ((Tryd.prog.info? 36).map (·.size) = some C.size) := Lib.hid (by rw [HC.out, pic_size _ _ (zto_size _ _)]; exact (zero_of_info info32).2)
      generalize pic 0 zero64 = B at *
      obtain ⟨R, hR⟩ : ∃ R, R = okTo 4 zs 64 := ⟨_, rfl⟩
      rw [← hR] at heq
      have HR := Lib.hid hR
      clear hR
      go_wp2_with (refine wpList_load_row rfl 36 (.tmp 3) rfl (w.heap.size + 1) rfl 36 C (0, 0) _ HH.out Tryd.underlying36 rfl HC32.out ?_)
      go_ret
      exact ⟨by rw [← HR.out]; rfl, below_drewN (below_al2 _ _ _) _⟩

set_option maxRecDepth 100000 in
set_option maxHeartbeats 1000000 in
theorem impl_one (zs : Array Value) (hz : Floats zs) (w : World) : Calls Tryd.prog 29 #[.agg (pic 1 zs)] w fun e w' => e = .returned (.bool (okTo 1 zs 64)) ∧ Below w.heap.size w w' := by
  have HZ := Lib.hid hz
  have hz32 := (zero_of_info info32).1
  have HS : Hid ((Tryd.prog.info? 36).map (·.size) = some (pic 1 zs).size) := Lib.hid (by rw [pic_size 1 zs hz.1]; exact (zero_of_info info32).2)
  have HZS : Hid ((pic 0 zero64).size = (pic 1 zs).size) := Lib.hid (by rw [pic_size 1 zs hz.1, pic_size 0 zero64 (by simp [zero64])])
  have H1 := Lib.hid (pic_one 1 zs hz)
  have h0 := pic_zero 1 zs
  have HP := Lib.hid (pic_succ 1 zs)
  have hs : side 1 = true := by decide
  generalize hcs : pic 1 zs = cs at *
  have HCS := Lib.hid hcs
  generalize pic 0 zero64 = Z at *
  clear hz hcs
  go_enter Tryd.func29, Tryd.ntmps29
  go_wp2_with (first | (go_at_call 21; refine (isSide_any _ _).mono ?_; rw [hs]; rintro e w' ⟨rfl, rfl⟩) | (refine wpList_load_row rfl 36 (.tmp 1) rfl w.heap.size rfl 36 cs (0, 0) _ (h1_0 _ _) Tryd.underlying36 rfl HS.out ?_) | (refine wpList_store_row rfl 36 (.tmp 3) (.tmp 9) rfl (w.heap.size + 1) cs rfl rfl 36 Z (h2_1 _ _ _) HS.out HZS.out H1.out ?_; rw [setRow_al2]))
  clear hs hz32 HZS
  go_loopw [15] (fun i wr => ∃ (k n : Nat) (C : Array Value), k ≤ 1 ∧ i = .int .i64 k ∧ Hid (okTo 1 zs k = true) ∧ Hid (C = pic 1 (zto zs k)) ∧ wr = ((w.alloc (.cells cs 36)).alloc (.cells C 36)).drewN n) (fun i _ => 1 - (intOf i).toNat)
  case atStart => exact ⟨0, 0, cs, by omega, rfl, Lib.hid rfl, Lib.hid (by rw [zto_zero zs HZ.out]; exact HCS.out.symm), rfl⟩
  case round =>
    obtain ⟨k, n, C, hk, rfl, hok, HC, rfl⟩ := hrel
    by_cases hlt : k < 1
    · obtain ⟨x, hx, hzk⟩ := HZ.out.2 k (by omega)
      have hc1 : cs[1 + k]? = some (.float .f32 x) := by rw [Nat.add_comm, HP.out]; exact hzk
      have hC1 : C[1 + k]? = some (.float .f32 x) := by
        rw [HC.out, Nat.add_comm, pic_succ, zto_get, if_pos (by omega), if_neg (by omega), Array.getD_eq_getD_getElem?, hzk]; rfl
      have HN : Hid (okTo 1 zs (k + 1) = okCell 1 k x) := Lib.hid (by rw [okTo, hok.out, bitsAt_of zs k x hzk]; rfl)
      clear hzk
      cases hf : fin x
      · have HF : Hid (okTo 1 zs 64 = false) := Lib.hid (okTo_false 1 zs (k + 1) 64 (by rw [HN.out]; simp [okCell, hf]) (by omega))
        go_wp2_with (go_at_call 36; refine (finite_any _ _).mono ?_; rw [hf]; rintro e w' ⟨rfl, n', rfl⟩)
        go_ret
        exact ⟨by rw [HF.out]; rfl, below_drewN (below_al2 _ _ _) _⟩
      · cases hl : ltz x
        · have hl' : (FloatKind.f32.format.order x 0 == some .lt) = false := hl
          have HF : Hid (okTo 1 zs (k + 1) = true) := Lib.hid (by rw [HN.out]; simp [okCell, hf, hl, hlt])
          clear hl
          go_wp2_with (go_at_call 36; refine (finite_any _ _).mono ?_; rw [hf]; rintro e w' ⟨rfl, n', rfl⟩)
          rw [setCell_al2]
          exact ⟨⟨k + 1, n + n', _, by omega, by go_num, HF, Lib.hid (by rw [HC.out]; exact pic_zto 1 zs k (by omega)), rfl⟩, by simp [intOf]; omega⟩
        · have hl' : (FloatKind.f32.format.order x 0 == some .lt) = true := hl
          have HF : Hid (okTo 1 zs 64 = false) := Lib.hid (okTo_false 1 zs (k + 1) 64 (by rw [HN.out]; simp [okCell, hl]) (by omega))
          clear hl
          go_wp2_with (go_at_call 36; refine (finite_any _ _).mono ?_; rw [hf]; rintro e w' ⟨rfl, n', rfl⟩)
          go_ret
          exact ⟨by rw [HF.out]; rfl, below_drewN (below_al2 _ _ _) _⟩
    · obtain rfl : k = 1 := by omega
      have hz32 := (zero_of_info info32).1
      have hne : ¬ pic 0 zero64 = #[] := fun e => by
        have := congrArg Array.size e
        rw [pic_size 0 zero64 (by simp [zero64])] at this
        simp at this
      have heq : ∀ w, (binOp .eql 36 (.agg C) (.agg ((pic 0 zero64).setIfInBounds 0 (.int .i64 1)))).run Tryd.prog w = .ok (.bool (okTo 1 zs 64)) w := fun w => by
        rw [pic_set0, HC.out, run_eq32 1 (zto zs 1) zero64 (zto_size _ _) (by simp [zero64]) (restE 1 zs) (zto_eq 1 zs HZ.out) w, ← okTo_rest 1 zs hok.out 64 (by omega)]
      have HH : Hid ((((w.alloc (.cells cs 36)).alloc (.cells C 36)).drewN n).heap[w.heap.size + 1]? = some (.cells C 36)) := Lib.hid (h2_1 _ _ _)
      have HC32 : Hid ((Tryd.prog.info? 36).map (·.size) = some C.size) := Lib.hid (by rw [HC.out, pic_size _ _ (zto_size _ _)]; exact (zero_of_info info32).2)
      generalize pic 0 zero64 = B at *
      obtain ⟨R, hR⟩ : ∃ R, R = okTo 1 zs 64 := ⟨_, rfl⟩
      rw [← hR] at heq
      have HR := Lib.hid hR
      clear hR
      go_wp2_with (refine wpList_load_row rfl 36 (.tmp 3) rfl (w.heap.size + 1) rfl 36 C (0, 0) _ HH.out Tryd.underlying36 rfl HC32.out ?_)
      go_ret
      exact ⟨by rw [← HR.out]; rfl, below_drewN (below_al2 _ _ _) _⟩

set_option maxRecDepth 100000 in
set_option maxHeartbeats 1000000 in
theorem impl_four (zs : Array Value) (hz : Floats zs) (w : World) : Calls Tryd.prog 29 #[.agg (pic 4 zs)] w fun e w' => e = .returned (.bool (okTo 16 zs 64)) ∧ Below w.heap.size w w' := by
  have HZ := Lib.hid hz
  have hz32 := (zero_of_info info32).1
  have HS : Hid ((Tryd.prog.info? 36).map (·.size) = some (pic 4 zs).size) := Lib.hid (by rw [pic_size 4 zs hz.1]; exact (zero_of_info info32).2)
  have HZS : Hid ((pic 0 zero64).size = (pic 4 zs).size) := Lib.hid (by rw [pic_size 4 zs hz.1, pic_size 0 zero64 (by simp [zero64])])
  have H1 := Lib.hid (pic_one 4 zs hz)
  have h0 := pic_zero 4 zs
  have HP := Lib.hid (pic_succ 4 zs)
  have hs : side 4 = true := by decide
  generalize hcs : pic 4 zs = cs at *
  have HCS := Lib.hid hcs
  generalize pic 0 zero64 = Z at *
  clear hz hcs
  go_enter Tryd.func29, Tryd.ntmps29
  go_wp2_with (first | (go_at_call 21; refine (isSide_any _ _).mono ?_; rw [hs]; rintro e w' ⟨rfl, rfl⟩) | (refine wpList_load_row rfl 36 (.tmp 1) rfl w.heap.size rfl 36 cs (0, 0) _ (h1_0 _ _) Tryd.underlying36 rfl HS.out ?_) | (refine wpList_store_row rfl 36 (.tmp 3) (.tmp 9) rfl (w.heap.size + 1) cs rfl rfl 36 Z (h2_1 _ _ _) HS.out HZS.out H1.out ?_; rw [setRow_al2]))
  clear hs hz32 HZS
  go_loopw [15] (fun i wr => ∃ (k n : Nat) (C : Array Value), k ≤ 16 ∧ i = .int .i64 k ∧ Hid (okTo 16 zs k = true) ∧ Hid (C = pic 4 (zto zs k)) ∧ wr = ((w.alloc (.cells cs 36)).alloc (.cells C 36)).drewN n) (fun i _ => 16 - (intOf i).toNat)
  case atStart => exact ⟨0, 0, cs, by omega, rfl, Lib.hid rfl, Lib.hid (by rw [zto_zero zs HZ.out]; exact HCS.out.symm), rfl⟩
  case round =>
    obtain ⟨k, n, C, hk, rfl, hok, HC, rfl⟩ := hrel
    by_cases hlt : k < 16
    · obtain ⟨x, hx, hzk⟩ := HZ.out.2 k (by omega)
      have hc1 : cs[1 + k]? = some (.float .f32 x) := by rw [Nat.add_comm, HP.out]; exact hzk
      have hC1 : C[1 + k]? = some (.float .f32 x) := by
        rw [HC.out, Nat.add_comm, pic_succ, zto_get, if_pos (by omega), if_neg (by omega), Array.getD_eq_getD_getElem?, hzk]; rfl
      have HN : Hid (okTo 16 zs (k + 1) = okCell 16 k x) := Lib.hid (by rw [okTo, hok.out, bitsAt_of zs k x hzk]; rfl)
      clear hzk
      cases hf : fin x
      · have HF : Hid (okTo 16 zs 64 = false) := Lib.hid (okTo_false 16 zs (k + 1) 64 (by rw [HN.out]; simp [okCell, hf]) (by omega))
        go_wp2_with (go_at_call 36; refine (finite_any _ _).mono ?_; rw [hf]; rintro e w' ⟨rfl, n', rfl⟩)
        go_ret
        exact ⟨by rw [HF.out]; rfl, below_drewN (below_al2 _ _ _) _⟩
      · cases hl : ltz x
        · have hl' : (FloatKind.f32.format.order x 0 == some .lt) = false := hl
          have HF : Hid (okTo 16 zs (k + 1) = true) := Lib.hid (by rw [HN.out]; simp [okCell, hf, hl, hlt])
          clear hl
          go_wp2_with (go_at_call 36; refine (finite_any _ _).mono ?_; rw [hf]; rintro e w' ⟨rfl, n', rfl⟩)
          rw [setCell_al2]
          exact ⟨⟨k + 1, n + n', _, by omega, by go_num, HF, Lib.hid (by rw [HC.out]; exact pic_zto 4 zs k (by omega)), rfl⟩, by simp [intOf]; omega⟩
        · have hl' : (FloatKind.f32.format.order x 0 == some .lt) = true := hl
          have HF : Hid (okTo 16 zs 64 = false) := Lib.hid (okTo_false 16 zs (k + 1) 64 (by rw [HN.out]; simp [okCell, hl]) (by omega))
          clear hl
          go_wp2_with (go_at_call 36; refine (finite_any _ _).mono ?_; rw [hf]; rintro e w' ⟨rfl, n', rfl⟩)
          go_ret
          exact ⟨by rw [HF.out]; rfl, below_drewN (below_al2 _ _ _) _⟩
    · obtain rfl : k = 16 := by omega
      have hz32 := (zero_of_info info32).1
      have hne : ¬ pic 0 zero64 = #[] := fun e => by
        have := congrArg Array.size e
        rw [pic_size 0 zero64 (by simp [zero64])] at this
        simp at this
      have heq : ∀ w, (binOp .eql 36 (.agg C) (.agg ((pic 0 zero64).setIfInBounds 0 (.int .i64 4)))).run Tryd.prog w = .ok (.bool (okTo 16 zs 64)) w := fun w => by
        rw [pic_set0, HC.out, run_eq32 4 (zto zs 16) zero64 (zto_size _ _) (by simp [zero64]) (restE 16 zs) (zto_eq 16 zs HZ.out) w, ← okTo_rest 16 zs hok.out 64 (by omega)]
      have HH : Hid ((((w.alloc (.cells cs 36)).alloc (.cells C 36)).drewN n).heap[w.heap.size + 1]? = some (.cells C 36)) := Lib.hid (h2_1 _ _ _)
      have HC32 : Hid ((Tryd.prog.info? 36).map (·.size) = some C.size) := Lib.hid (by rw [HC.out, pic_size _ _ (zto_size _ _)]; exact (zero_of_info info32).2)
      generalize pic 0 zero64 = B at *
      obtain ⟨R, hR⟩ : ∃ R, R = okTo 16 zs 64 := ⟨_, rfl⟩
      rw [← hR] at heq
      have HR := Lib.hid hR
      clear hR
      go_wp2_with (refine wpList_load_row rfl 36 (.tmp 3) rfl (w.heap.size + 1) rfl 36 C (0, 0) _ HH.out Tryd.underlying36 rfl HC32.out ?_)
      go_ret
      exact ⟨by rw [← HR.out]; rfl, below_drewN (below_al2 _ _ _) _⟩

set_option maxRecDepth 100000 in
set_option maxHeartbeats 1000000 in
theorem impl_eight (zs : Array Value) (hz : Floats zs) (w : World) : Calls Tryd.prog 29 #[.agg (pic 8 zs)] w fun e w' => e = .returned (.bool (okTo 64 zs 64)) ∧ Below w.heap.size w w' := by
  have HZ := Lib.hid hz
  have hz32 := (zero_of_info info32).1
  have HS : Hid ((Tryd.prog.info? 36).map (·.size) = some (pic 8 zs).size) := Lib.hid (by rw [pic_size 8 zs hz.1]; exact (zero_of_info info32).2)
  have HZS : Hid ((pic 0 zero64).size = (pic 8 zs).size) := Lib.hid (by rw [pic_size 8 zs hz.1, pic_size 0 zero64 (by simp [zero64])])
  have H1 := Lib.hid (pic_one 8 zs hz)
  have h0 := pic_zero 8 zs
  have HP := Lib.hid (pic_succ 8 zs)
  have hs : side 8 = true := by decide
  generalize hcs : pic 8 zs = cs at *
  have HCS := Lib.hid hcs
  generalize pic 0 zero64 = Z at *
  clear hz hcs
  go_enter Tryd.func29, Tryd.ntmps29
  go_wp2_with (first | (go_at_call 21; refine (isSide_any _ _).mono ?_; rw [hs]; rintro e w' ⟨rfl, rfl⟩) | (refine wpList_load_row rfl 36 (.tmp 1) rfl w.heap.size rfl 36 cs (0, 0) _ (h1_0 _ _) Tryd.underlying36 rfl HS.out ?_) | (refine wpList_store_row rfl 36 (.tmp 3) (.tmp 9) rfl (w.heap.size + 1) cs rfl rfl 36 Z (h2_1 _ _ _) HS.out HZS.out H1.out ?_; rw [setRow_al2]))
  clear hs hz32 HZS
  go_loopw [15] (fun i wr => ∃ (k n : Nat) (C : Array Value), k ≤ 64 ∧ i = .int .i64 k ∧ Hid (okTo 64 zs k = true) ∧ Hid (C = pic 8 (zto zs k)) ∧ wr = ((w.alloc (.cells cs 36)).alloc (.cells C 36)).drewN n) (fun i _ => 64 - (intOf i).toNat)
  case atStart => exact ⟨0, 0, cs, by omega, rfl, Lib.hid rfl, Lib.hid (by rw [zto_zero zs HZ.out]; exact HCS.out.symm), rfl⟩
  case round =>
    obtain ⟨k, n, C, hk, rfl, hok, HC, rfl⟩ := hrel
    by_cases hlt : k < 64
    · obtain ⟨x, hx, hzk⟩ := HZ.out.2 k (by omega)
      have hc1 : cs[1 + k]? = some (.float .f32 x) := by rw [Nat.add_comm, HP.out]; exact hzk
      have hC1 : C[1 + k]? = some (.float .f32 x) := by
        rw [HC.out, Nat.add_comm, pic_succ, zto_get, if_pos (by omega), if_neg (by omega), Array.getD_eq_getD_getElem?, hzk]; rfl
      have HN : Hid (okTo 64 zs (k + 1) = okCell 64 k x) := Lib.hid (by rw [okTo, hok.out, bitsAt_of zs k x hzk]; rfl)
      clear hzk
      cases hf : fin x
      · have HF : Hid (okTo 64 zs 64 = false) := Lib.hid (okTo_false 64 zs (k + 1) 64 (by rw [HN.out]; simp [okCell, hf]) (by omega))
        go_wp2_with (go_at_call 36; refine (finite_any _ _).mono ?_; rw [hf]; rintro e w' ⟨rfl, n', rfl⟩)
        go_ret
        exact ⟨by rw [HF.out]; rfl, below_drewN (below_al2 _ _ _) _⟩
      · cases hl : ltz x
        · have hl' : (FloatKind.f32.format.order x 0 == some .lt) = false := hl
          have HF : Hid (okTo 64 zs (k + 1) = true) := Lib.hid (by rw [HN.out]; simp [okCell, hf, hl, hlt])
          clear hl
          go_wp2_with (go_at_call 36; refine (finite_any _ _).mono ?_; rw [hf]; rintro e w' ⟨rfl, n', rfl⟩)
          rw [setCell_al2]
          exact ⟨⟨k + 1, n + n', _, by omega, by go_num, HF, Lib.hid (by rw [HC.out]; exact pic_zto 8 zs k (by omega)), rfl⟩, by simp [intOf]; omega⟩
        · have hl' : (FloatKind.f32.format.order x 0 == some .lt) = true := hl
          have HF : Hid (okTo 64 zs 64 = false) := Lib.hid (okTo_false 64 zs (k + 1) 64 (by rw [HN.out]; simp [okCell, hl]) (by omega))
          clear hl
          go_wp2_with (go_at_call 36; refine (finite_any _ _).mono ?_; rw [hf]; rintro e w' ⟨rfl, n', rfl⟩)
          go_ret
          exact ⟨by rw [HF.out]; rfl, below_drewN (below_al2 _ _ _) _⟩
    · obtain rfl : k = 64 := by omega
      have hz32 := (zero_of_info info32).1
      have hne : ¬ pic 0 zero64 = #[] := fun e => by
        have := congrArg Array.size e
        rw [pic_size 0 zero64 (by simp [zero64])] at this
        simp at this
      have heq : ∀ w, (binOp .eql 36 (.agg C) (.agg ((pic 0 zero64).setIfInBounds 0 (.int .i64 8)))).run Tryd.prog w = .ok (.bool (okTo 64 zs 64)) w := fun w => by
        rw [pic_set0, HC.out, run_eq32 8 (zto zs 64) zero64 (zto_size _ _) (by simp [zero64]) (restE 64 zs) (zto_eq 64 zs HZ.out) w, ← okTo_rest 64 zs hok.out 64 (by omega)]
      have HH : Hid ((((w.alloc (.cells cs 36)).alloc (.cells C 36)).drewN n).heap[w.heap.size + 1]? = some (.cells C 36)) := Lib.hid (h2_1 _ _ _)
      have HC32 : Hid ((Tryd.prog.info? 36).map (·.size) = some C.size) := Lib.hid (by rw [HC.out, pic_size _ _ (zto_size _ _)]; exact (zero_of_info info32).2)
      generalize pic 0 zero64 = B at *
      obtain ⟨R, hR⟩ : ∃ R, R = okTo 64 zs 64 := ⟨_, rfl⟩
      rw [← hR] at heq
      have HR := Lib.hid hR
      clear hR
      go_wp2_with (refine wpList_load_row rfl 36 (.tmp 3) rfl (w.heap.size + 1) rfl 36 C (0, 0) _ HH.out Tryd.underlying36 rfl HC32.out ?_)
      go_ret
      exact ⟨by rw [← HR.out]; rfl, below_drewN (below_al2 _ _ _) _⟩

theorem impl_any (s : Int) (zs : Array Value) (hz : Floats zs) (w : World) : Calls Tryd.prog 29 #[.agg (pic s zs)] w fun e w' => e = .returned (.bool (shown s zs)) ∧ Below w.heap.size w w' := by
  unfold shown
  cases h : side s
  · exact impl_no s zs h w
  · rcases side_yes s h with rfl | rfl | rfl | rfl
    · exact impl_one zs hz w
    · exact impl_two zs hz w
    · exact impl_four zs hz w
    · exact impl_eight zs hz w

end Go.Proofs.YtjmfffgddmnkmabDoor
