/- What is a mask in the program's way to ask, and which of its cells are open. Condition: 64 complex numbers. -/
import Derived.Test.YtjmfffgddmnkmabM18
namespace Go.Proofs.Ytjmfffgddmnkmab
open Go Go.RowKit

/-- is a cell 1? -/
def one (x y : Nat) : Bool := (FloatKind.f32.format.order x 1065353216 == some .eq) && (FloatKind.f32.format.order y 0 == some .eq)
def mk (x y : Nat) : Bool := nul x y || one x y
/-- are the first k cells 0 or 1? -/
def mks (D : Array Value) : Nat → Bool
  | 0 => true
  | k + 1 => mks D k && mk (reAt D k) (imAt D k)
def isMsk (s : Int) (D : Array Value) : Bool := mks D 64 && isWav s D
theorem mks_false (D : Array Value) (k m : Nat) (h : mks D k = false) (hm : k ≤ m) : mks D m = false := by
  induction m with
  | zero => obtain rfl : k = 0 := by omega
            exact h
  | succ m ih =>
    by_cases h1 : k = m + 1
    · subst h1; exact h
    · rw [mks, ih (by omega)]; rfl
theorem mks_of (D : Array Value) (m : Nat) (h : ∀ k, k < m → mk (reAt D k) (imAt D k) = true) : mks D m = true := by
  induction m with
  | zero => rfl
  | succ m ih => rw [mks, ih (fun k hk => h k (by omega)), h m (by omega)]; rfl
/-- is the i-th cell open? -/
def open_ (D : Array Value) (i : Nat) : Bool := one (reAt D i) (imAt D i)

set_option maxRecDepth 100000 in
set_option maxHeartbeats 800000 in
theorem implIsMask_any (s : Int) (D : Array Value) (hD : Wav s D) (w : World) : Calls Try.prog 19 #[.agg D] w fun e w' => e = .returned (.bool (isMsk s D)) ∧ Below w.heap.size w w' := by
  have HDI : Hid ((Try.prog.info? 30).map (·.size) = some D.size) := Lib.hid (by rw [hD.1]; exact (zero_of_info info37').2)
  have HS := Lib.hid size35
  have HIS := Lib.hid (implIsW_any s D hD)
  obtain ⟨zs, hzs⟩ : ∃ zs, zs = D.extract 1 65 := ⟨_, rfl⟩
  have HZS : Hid (zs.size = 64) := Lib.hid (by rw [hzs]; simp [hD.1])
  have HZI : Hid ((Try.prog.info? 28).map (·.size) = some zs.size) := Lib.hid (by rw [HZS.out]; exact HS.out)
  have HZG : Hid (∀ j, j < zs.size → D[1 + j]? = zs[j]?) := Lib.hid fun j hj => by rw [HZS.out] at hj; rw [hzs, ext_get D hD.1 j hj]
  have HX : Hid (∀ k : Nat, k < 64 → ∃ x y, (∀ w, (Instr.index 28 (.agg zs) (.int .i64 (k : Int))).run Try.prog w = .ok (.complex .f32 x y) w) ∧ reAt D k = x ∧ imAt D k = y) := Lib.hid fun k hk => by
    obtain ⟨x, y, h⟩ := hD.2.2 k hk
    obtain ⟨e1, e2⟩ := at_of D k x y h
    refine ⟨x, y, fun w => ?_, e1, e2⟩
    have h2 : zs[k]? = some (.complex .f32 x y) := by rw [hzs, ext_get D hD.1 k hk]; exact h
    have a := Try.isAgg27
    simp [Instr.index, run_underlying Try.underlying28, asIntOf, go_sem]
    rw [if_pos hk, h2]
    rfl
  clear hzs HS
  have HM : Hid (∀ k, k ≤ 64 → mks D k = false → isMsk s D = false) := Lib.hid fun k hk h => by unfold isMsk; rw [mks_false D k 64 h hk]; rfl
  have HE : Hid (mks D 64 = true → isMsk s D = isWav s D) := Lib.hid fun h => by unfold isMsk; rw [h]; rfl
  clear hD
  generalize isMsk s D = M at *
  go_enter Try.func19, Try.ntmps19
  go_wp2_with (first | fail | (refine wpList_load_part rfl 28 (.tmp 5) rfl w.heap.size 1 rfl zs _ 30 D (0, 0) (h1_0 _ _) HZG.out Try.underlying28 rfl HZI.out ?_))
  have G0 : Hid ((w.alloc (.cells D 30)).heap[w.heap.size]? = some (.cells D 30 (0, 0))) := Lib.hid (h1_0 _ _)
  have B0 : Hid (Below w.heap.size w (w.alloc (.cells D 30))) := Lib.hid ((Below.refl _ _).alloc (Nat.le_refl _) _)
  generalize w.alloc (.cells D 30) = v at *
  go_loopw [7] (fun i wr => ∃ k : Nat, k ≤ 64 ∧ i = .int .i64 k ∧ mks D k = true ∧ wr = v) (fun i _ => 64 - (intOf i).toNat)
  case atStart => exact ⟨0, by omega, rfl, rfl, rfl⟩
  case round =>
    obtain ⟨k, hk, rfl, hm, rfl⟩ := hrel
    by_cases hlt : k < 64
    · have hdk : decide ((k : Int) < 64) = true := by simp; omega
      obtain ⟨x, y, hX, ex, ey⟩ := HX.out k hlt
      have hs : mks D (k + 1) = mk x y := by rw [mks, hm, ex, ey]; rfl
      cases hn : nul x y
      · have hn' : (FloatKind.f32.format.order x 0 == some .eq && FloatKind.f32.format.order y 0 == some .eq) = false := hn
        cases ho : one x y
        · have ho' : (FloatKind.f32.format.order x 1065353216 == some .eq && FloatKind.f32.format.order y 0 == some .eq) = false := ho
          have hf := HM.out (k + 1) (by omega) (by rw [hs]; unfold mk; rw [hn, ho]; rfl)
          go_wp2
          go_ret
          exact ⟨by rw [hf]; rfl, B0.out⟩
        · have ho' : (FloatKind.f32.format.order x 1065353216 == some .eq && FloatKind.f32.format.order y 0 == some .eq) = true := ho
          go_wp2
          exact ⟨⟨k + 1, by omega, by go_num, by rw [hs]; unfold mk; rw [hn, ho]; rfl, trivial⟩, by simp [intOf]; omega⟩
      · have hn' : (FloatKind.f32.format.order x 0 == some .eq && FloatKind.f32.format.order y 0 == some .eq) = true := hn
        go_wp2
        exact ⟨⟨k + 1, by omega, by go_num, by rw [hs]; unfold mk; rw [hn]; rfl, trivial⟩, by simp [intOf]; omega⟩
    · obtain rfl : k = 64 := by omega
      have hq := HE.out hm
      go_wp2_with (first | (refine wpList_load_row rfl 30 (.tmp 1) rfl w.heap.size rfl 30 D (0, 0) _ G0.out Try.underlying30 rfl HDI.out ?_) | (go_at_call 74; fail))
      refine (HIS.out _).mono ?_
      rintro e w1 ⟨rfl, b1⟩
      have B1 := Lib.hid (B0.out.trans (b1.mono B0.out.size))
      clear b1
      go_wp2
      go_ret
      exact ⟨by rw [hq]; rfl, B1.out⟩

set_option maxRecDepth 100000 in
set_option maxHeartbeats 400000 in
theorem openingAt_any (s : Nat) (hs : side s = true) (D : Array Value) (hD : Wav s D) (y x : Nat) (hy : y < s) (hx : x < s) (w : World) : Calls Try.prog 76 #[.agg D, .int .i64 y, .int .i64 x] w fun e w' => e = .returned (.bool (open_ D (s * y + x))) ∧ Below w.heap.size w w' := by
  obtain ⟨hk, hk'⟩ := place_lt s y x hs hy hx
  obtain ⟨m, n, hz⟩ := hD.2.2 _ hk
  obtain ⟨r1, r2⟩ := at_of D _ m n hz
  have hs8 : 1 ≤ s ∧ s ≤ 8 := by rcases side_nat s hs with rfl | rfl | rfl | rfl <;> omega
  have hm : (s : Int) * (y : Int) = ((s * y : Nat) : Int) := by rw [Int.natCast_mul]
  have HA := Lib.hid (at_any w.heap.size s D y x (s * y + x) m n hk (by rw [hm]; exact IntWalk.i64_in _ (by omega)) (by rw [hm, ← Int.natCast_add]; exact IntWalk.i64_in _ (by omega)) hz hD.2.1 (w.alloc (.cells D 30)) (h1_0 _ _))
  have HO : open_ D (s * y + x) = (FloatKind.f32.format.order m 1065353216 == some .eq && FloatKind.f32.format.order n 0 == some .eq) := by unfold open_ one; rw [r1, r2]
  rw [HO]
  clear hz hD hm r1 r2 HO hk hk'
  go_enter Try.func76, Try.ntmps76
  go_wp2_with (go_at_call 87; fail)
  refine HA.out.mono ?_
  rintro e w1 ⟨rfl, q, rfl⟩
  go_wp2
  go_ret
  exact ⟨rfl, below_drewN ((Below.refl _ _).alloc (Nat.le_refl _) _) _⟩
end Go.Proofs.Ytjmfffgddmnkmab
