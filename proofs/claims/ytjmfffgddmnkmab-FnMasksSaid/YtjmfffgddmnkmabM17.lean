/- The program's way to ask whether something is a wave answers as the model's. Condition: 64 complex numbers. The model's cell of a wave. Condition: 64 complex numbers. -/
import Derived.Test.YtjmfffgddmnkmabEqC
import Derived.Test.YtjmfffgddmnkmabM14
import Derived.Test.YtjmfffgddmnkmabM13
namespace Go.Proofs.Ytjmfffgddmnkmab
open Go Go.RowKit

/-- the first k cells made zeros -/
def wz (D : Array Value) : Nat → Array Value
  | 0 => D
  | k + 1 => (wz D k).setIfInBounds (1 + k) (.complex .f32 0 0)
theorem wz_wav (s : Int) (D : Array Value) (h : Wav s D) (k : Nat) : Wav s (wz D k) := by
  induction k with
  | zero => exact h
  | succ k ih => exact wav_set ih k 0 0
theorem wz_get (s : Int) (D : Array Value) (h : Wav s D) (k i : Nat) (hi : i < 64) : (wz D k)[1 + i]? = if i < k then some (.complex .f32 0 0) else D[1 + i]? := by
  induction k with
  | zero => rfl
  | succ k ih =>
    rw [wz, Array.getElem?_setIfInBounds, (wz_wav s D h k).1]
    by_cases e : 1 + k = 1 + i
    · rw [if_pos e, if_pos (by omega), if_pos (by omega)]
    · rw [if_neg e, ih]
      by_cases h2 : i < k
      · rw [if_pos h2, if_pos (by omega)]
      · rw [if_neg h2, if_neg (by omega)]

theorem zero_fin (x : Nat) (h : (FloatKind.f32.format.order x 0 == some .eq) = true) : fin x = true := by
  have h' : FloatKind.f32.format.order x 0 = some .eq := by simpa using h
  cases hf : fin x
  · exfalso
    have h0 : Ieee.single.read 0 = .number false 0 (-149) := by decide
    have h2 : (Ieee.single.read x).order (Ieee.single.read 0) = some .eq := h'
    rw [h0] at h2
    rcases inf_read x hf with ⟨s, hs⟩ | ⟨s, t, hs⟩
    · rw [hs] at h2
      cases s <;> simp [Ieee.Datum.order] at h2
    · rw [hs] at h2
      simp [Ieee.Datum.order] at h2
  · rfl

/-- where the cells from the n-th on are as they have to be -/
def restW (n : Nat) (D : Array Value) (k : Nat) : Bool := decide (k < n) || nul (reAt D k) (imAt D k)
theorem okWavs_rest (n : Nat) (D : Array Value) (h : okWavs n D n = true) (m : Nat) (hm : n ≤ m) : okWavs n D m = (List.range' 0 m).all (restW n D) := by
  induction m with
  | zero =>
    obtain rfl : n = 0 := by omega
    rfl
  | succ m ih =>
    by_cases h1 : n = m + 1
    · subst h1
      rw [h, eq_comm, List.all_eq_true]
      intro k hk
      have : k < m + 1 := by simpa using hk
      simp [restW, this]
    · rw [okWavs, ih (by omega), List.range'_1_concat, List.all_append]
      simp only [List.all_cons, List.all_nil, Bool.and_true, Nat.zero_add]
      congr 1
      have h2 : decide (m < n) = false := by simp; omega
      unfold okWav restW
      rw [h2, Bool.false_or]
      cases he : nul (reAt D m) (imAt D m)
      · rw [Bool.and_false]
      · unfold nul at he
        rw [Bool.and_eq_true] at he
        rw [zero_fin _ he.1, zero_fin _ he.2]
        rfl

theorem wz_eq (s : Int) (n : Nat) (D : Array Value) (h : Wav s D) : ∀ k, k < 64 → ∃ x y a b, (wz D n)[1 + k]? = some (.complex .f32 x y) ∧ (pic s zc)[1 + k]? = some (.complex .f32 a b) ∧ (Op.floatEq .f32 x a && Op.floatEq .f32 y b) = restW n D k := by
  intro k hk
  obtain ⟨x, y, hx⟩ := h.2.2 k hk
  have hz : (pic s zc)[1 + k]? = some (.complex .f32 0 0) := by rw [Nat.add_comm, pic_succ]; simp [zc, hk]
  rw [wz_get s D h n k hk, hz]
  by_cases hn : k < n
  · refine ⟨0, 0, 0, 0, by rw [if_pos hn], rfl, ?_⟩
    have : restW n D k = true := by simp [restW, hn]
    rw [this]
    decide
  · obtain ⟨h1, h2⟩ := at_of D k x y hx
    refine ⟨x, y, 0, 0, by rw [if_neg hn, hx], rfl, ?_⟩
    unfold restW
    rw [h1, h2, show decide (k < n) = false by simp [hn], Bool.false_or]
    rfl

set_option maxRecDepth 100000 in
set_option maxHeartbeats 400000 in
theorem implIs_no (s : Int) (D : Array Value) (hD : Wav s D) (h : side s = false) (w : World) : Calls Try.prog 74 #[.agg D] w fun e w' => e = .returned (.bool false) ∧ Below w.heap.size w w' := by
  have h0 := hD.2.1
  clear hD
  go_enter Try.func74, Try.ntmps74
  go_wp2_with (go_at_call 65; refine (isSide_any _ _).mono ?_; rw [h]; rintro e w' ⟨rfl, rfl⟩)
  go_ret
  exact ⟨rfl, (Below.refl _ _).alloc (Nat.le_refl _) _⟩

set_option maxRecDepth 100000 in
set_option maxHeartbeats 1000000 in
theorem implIs_yes (s : Int) (D : Array Value) (hD : Wav s D) (hs : side s = true) (w : World) : Calls Try.prog 74 #[.agg D] w fun e w' => e = .returned (.bool (okWavs (s * s).toNat D 64)) ∧ Below w.heap.size w w' := by
  have hz37 := (zero_of_info info37').1
  have HS37 := Lib.hid (zero_of_info info37').2
  have HZ37 : Hid ((pic 0 zc).size = 65) := Lib.hid (pic_size 0 zc zc_size)
  have hne := pic_ne
  have HB := Lib.hid (pic_set0 0 s zc)
  have h0 := hD.2.1
  have HD := Lib.hid hD
  have HDI : Hid ((Try.prog.info? 30).map (·.size) = some D.size) := Lib.hid (by rw [hD.1]; exact HS37.out)
  have HZD : Hid ((pic 0 zc).size = D.size) := Lib.hid (by rw [hD.1]; exact HZ37.out)
  have HD1 := Lib.hid (wav_one hD)
  have HEQ : Hid (∀ (N : Nat), okWavs N D N = true → N ≤ 64 → ∀ w, (binOp .eql 30 (.agg (wz D N)) (.agg (pic s zc))).run Try.prog w = .ok (.bool (okWavs N D 64)) w) := Lib.hid fun N hN h64 w => by
    rw [run_eqlW s (wz D N) (pic s zc) (wz_wav s D hD N) (wav_zc s) (restW N D) (wz_eq s N D hD) w, ← okWavs_rest N D hN 64 h64]
  clear hD
  obtain ⟨N, hN, hN64, hNs⟩ : ∃ N : Nat, IntKind.i64.wrap (s * s) = (N : Int) ∧ N ≤ 64 ∧ (s * s).toNat = N := by
    rcases side_yes s hs with rfl | rfl | rfl | rfl
    · exact ⟨1, rfl, by omega, rfl⟩
    · exact ⟨4, rfl, by omega, rfl⟩
    · exact ⟨16, rfl, by omega, rfl⟩
    · exact ⟨64, rfl, by omega, rfl⟩
  rw [hNs]
  clear hNs
  obtain ⟨E, hE⟩ : ∃ E, E = pic s zc := ⟨_, rfl⟩
  rw [← hE] at HB HEQ
  generalize pic 0 zc = Z at *
  clear hE
  go_enter Try.func74, Try.ntmps74
  go_wp2_with (first | (go_at_call 65; refine (isSide_any _ _).mono ?_; rw [hs]; rintro e w' ⟨rfl, rfl⟩) | (refine wpList_load_row rfl 30 (.tmp 1) rfl w.heap.size rfl 30 D (0, 0) _ (h1_0 _ _) Try.underlying30 rfl HDI.out ?_) | (refine wpList_store_row rfl 30 (.tmp 3) (.tmp 9) rfl (w.heap.size + 1) D rfl rfl 30 Z (h2_1 _ _ _) HDI.out HZD.out HD1.out ?_; rw [setRow_al2]))
  clear hs HZD
  go_loopw [15] (fun i wr => ∃ (k n : Nat) (C : Array Value), k ≤ N ∧ i = .int .i64 k ∧ Hid (okWavs N D k = true) ∧ Hid (C = wz D k) ∧ wr = ((w.alloc (.cells D 30)).alloc (.cells C 30)).drewN n) (fun i _ => N - (intOf i).toNat)
  case atStart => exact ⟨0, 0, D, by omega, rfl, Lib.hid rfl, Lib.hid rfl, rfl⟩
  case round =>
    obtain ⟨k, n, C, hk, rfl, hok, HC, rfl⟩ := hrel
    by_cases hlt : k < N
    · obtain ⟨x, y, hzk⟩ := HD.out.2.2 k (by omega)
      have hat := at_of D k x y hzk
      have HN : Hid (okWavs N D (k + 1) = okWav N k x y) := Lib.hid (by rw [okWavs, hok.out, hat.1, hat.2]; rfl)
      obtain ⟨a, b, hC1⟩ := (wz_wav s D HD.out k).2.2 k (by omega)
      rw [← HC.out] at hC1
      clear hat
      cases hf : fin x && fin y
      · have HF : Hid (okWavs N D 64 = false) := Lib.hid (okWavs_false N D (k + 1) 64 (by rw [HN.out]; simp [okWav, hf]) (by omega))
        go_wp2_with (go_at_call 119; refine (isComplex_any _ _ _).mono ?_; rw [hf]; rintro e w' ⟨rfl, n', rfl⟩)
        go_ret
        exact ⟨by rw [HF.out]; rfl, below_drewN (below_al2 _ _ _) _⟩
      · have HF : Hid (okWavs N D (k + 1) = true) := Lib.hid (by rw [HN.out]; simp [okWav, hf, hlt])
        go_wp2_with (go_at_call 119; refine (isComplex_any _ _ _).mono ?_; rw [hf]; rintro e w' ⟨rfl, n', rfl⟩)
        rw [setCell_al2]
        exact ⟨⟨k + 1, n + n', _, by omega, by go_num, HF, Lib.hid (by rw [HC.out]; rfl), rfl⟩, by simp [intOf]; omega⟩
    · obtain rfl : k = N := by omega
      have heq : ∀ w, (binOp .eql 30 (.agg C) (.agg (Z.setIfInBounds 0 (.int .i64 s)))).run Try.prog w = .ok (.bool (okWavs k D 64)) w := fun w => by
        rw [HB.out, HC.out]; exact HEQ.out k hok.out hN64 w
      have HH : Hid ((((w.alloc (.cells D 30)).alloc (.cells C 30)).drewN n).heap[w.heap.size + 1]? = some (.cells C 30)) := Lib.hid (h2_1 _ _ _)
      have HCI : Hid ((Try.prog.info? 30).map (·.size) = some C.size) := Lib.hid (by rw [HC.out, (wz_wav s D HD.out k).1]; exact HS37.out)
      obtain ⟨R, hR⟩ : ∃ R, R = okWavs k D 64 := ⟨_, rfl⟩
      rw [← hR] at heq
      have HR := Lib.hid hR
      clear hR HEQ HB
      go_wp2_with (refine wpList_load_row rfl 30 (.tmp 3) rfl (w.heap.size + 1) rfl 30 C (0, 0) _ HH.out Try.underlying30 rfl HCI.out ?_)
      go_ret
      exact ⟨by rw [← HR.out]; rfl, below_drewN (below_al2 _ _ _) _⟩

theorem implIsW_any (s : Int) (D : Array Value) (hD : Wav s D) (w : World) : Calls Try.prog 74 #[.agg D] w fun e w' => e = .returned (.bool (isWav s D)) ∧ Below w.heap.size w w' := by
  unfold isWav
  cases hs : side s
  · exact implIs_no s D hD hs w
  · exact implIs_yes s D hD hs w
end Go.Proofs.Ytjmfffgddmnkmab

namespace Go.Proofs.Ytjmfffgddmnkmab
open Go Go.RowKit

/-- the answer that is asked for a cell -/
def cellAns (s : Int) (D : Array Value) (y x : Int) : Value :=
  if isWav s D then
    if inside y 0 (s - 1) && inside x 0 (s - 1) then .tuple #[.complex .f32 (reAt D (s * y + x).toNat) (imAt D (s * y + x).toNat), .int .i64 0]
    else .tuple #[.complex .f32 0 0, .int .i64 2]
  else .tuple #[.complex .f32 0 0, .int .i64 1]

theorem cell_place (s y x : Int) (hs : 1 ≤ s ∧ s ≤ 8) (hy : inside y 0 (s - 1) = true) (hx : inside x 0 (s - 1) = true) :
    ∃ k : Nat, k < 64 ∧ (s * y + x).toNat = k ∧ IntKind.i64.wrap (s * y) = s * y ∧ IntKind.i64.wrap (s * y + x) = (k : Int) := by
  have hyx : 0 ≤ y ∧ y ≤ s - 1 ∧ 0 ≤ x ∧ x ≤ s - 1 := by simp [inside] at hy hx; omega
  have hm0 : 0 ≤ s * y := Int.mul_nonneg (by omega) (by omega)
  have h7 : s * y ≤ s * (s - 1) := Int.mul_le_mul_of_nonneg_left hyx.2.1 (by omega)
  have h8 : s * (s - 1) ≤ 8 * (s - 1) := Int.mul_le_mul_of_nonneg_right hs.2 (by omega)
  refine ⟨(s * y + x).toNat, by omega, rfl, IntWalk.i64_in _ (by omega), ?_⟩
  rw [IntWalk.i64_in _ (by omega)]
  omega

end Go.Proofs.Ytjmfffgddmnkmab
