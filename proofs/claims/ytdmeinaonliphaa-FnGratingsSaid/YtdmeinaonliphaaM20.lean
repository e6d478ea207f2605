/- When two waves are equal by Go's own word. Condition: 64 complex numbers each. The model's way to ask whether something is a wave. Condition: 64 complex numbers. -/
import Derived.Test.YtdmeinaonliphaaM19
import Derived.Test.YtdmeinaonliphaaM17
import Derived.Test.YtdmeinaonliphaaM2
import Derived.Laws.StructEq
namespace Go.Proofs.Ytdmeinaonliphaa
open Go Go.RowKit

theorem run_partC (zs : Array Value) (i x y : Nat) (h : zs[i]? = some (.complex .f32 x y)) (w : World) : (part 25 zs (i * 1)).run Try.prog w = .ok (.complex .f32 x y) w := by
  have a := Try.isAgg25
  simp [part, a, h]

theorem run_eqC (d x y a b : Nat) (w : World) : (Op.equalIn (d + 1) 25 (.complex .f32 x y) (.complex .f32 a b)).run Try.prog w = .ok (Op.floatEq .f32 x a && Op.floatEq .f32 y b) w := by
  simp [Op.equalIn, run_underlying Try.underlying25]

theorem run_eqA (zs ys : Array Value) (E : Nat → Bool) (h : ∀ k, k < 64 → ∃ x y a b, zs[k]? = some (.complex .f32 x y) ∧ ys[k]? = some (.complex .f32 a b) ∧ (Op.floatEq .f32 x a && Op.floatEq .f32 y b) = E k) (d : Nat) (w : World) :
    (Op.equalIn (d + 2) 30 (.agg zs) (.agg ys)).run Try.prog w = .ok ((List.range' 0 64).all E) w := by
  have z := Try.sizeOf25
  rw [Op.equalIn]
  simp only [Sem.run_bind, run_underlying Try.underlying30, Result.andThen_ok, z, Std.Legacy.Range.forIn_eq_forIn_range', Std.Legacy.Range.size, Nat.sub_zero, Nat.add_sub_cancel, Nat.div_one]
  have hl : ∀ i ∈ List.range' 0 64, i < 64 := by simp
  generalize List.range' 0 64 = l at *
  induction l with
  | nil => simp
  | cons i l ih =>
    obtain ⟨x, y, a, b, hx, hy, hE⟩ := h i (hl i (by simp))
    have ih' := ih (fun j hj => hl j (by simp [hj]))
    simp only [List.forIn_cons, Sem.run_bind, run_partC zs i x y hx, run_partC ys i a b hy, Result.andThen_ok, run_eqC, hE, List.all_cons]
    cases E i
    · simp
    · simpa using ih'

theorem run_partW (D : Array Value) (w : World) : (part 30 D 1).run Try.prog w = .ok (.agg (D.extract 1 65)) w := by
  have a := Try.isAgg30
  have z := Try.sizeOf30
  simp [part, a, z]

theorem ext_get (D : Array Value) (h : D.size = 65) (k : Nat) (hk : k < 64) : (D.extract 1 65)[k]? = D[1 + k]? := by
  rw [Array.getElem?_extract, if_pos (by omega)]

theorem run_eqW (s : Int) (D C : Array Value) (hD : Wav s D) (hC : Wav s C) (E : Nat → Bool)
    (h : ∀ k, k < 64 → ∃ x y a b, D[1 + k]? = some (.complex .f32 x y) ∧ C[1 + k]? = some (.complex .f32 a b) ∧ (Op.floatEq .f32 x a && Op.floatEq .f32 y b) = E k) (w : World) :
    (Op.equalIn 10000 32 (.agg D) (.agg C)).run Try.prog w = .ok ((List.range' 0 64).all E) w := by
  have hS : Try.prog.underlying 32 = some (.struct (Try.prog.fieldsOf 32)) := by kernel_rfl
  have hp : Try.prog.stoodInHeld 32 = false := by kernel_rfl
  rw [show (10000 : Nat) = 9999 + 1 from rfl, run_equalIn_agg w 9999 32 _ _ hS hp]
  have p1 : ∀ (D : Array Value), Wav s D → ∀ w : World, (part 2 D 0).run Try.prog w = .ok (.int .i64 s) w := by
    intro D hD w
    have a := Try.isAgg2
    simp [part, a, hD.2.1]
  have q1 := p1 D hD
  have q2 := p1 C hC
  have e1 := fun w => run_equalIn_int (P := Try.prog) w 9998 2 .i64 .i64 s s Try.underlying2
  have e2 := run_eqA (D.extract 1 65) (C.extract 1 65) E (fun k hk => by rw [ext_get D hD.1 k hk, ext_get C hC.1 k hk]; exact h k hk) 9997
  have p2 := run_partW D
  have p3 := run_partW C
  simp only [Program.fieldsOf, Try.underlying32]
  simp only [Op.eqFields, Sem.run_bind, Sem.run_ite, q1, q2, p2, p3, e1, e2, Result.andThen_ok]
  simp only [beq_self_eq_true, Bool.not_true, Bool.false_eq_true, if_false, ne_eq, show ¬ ("Side" : String) = "_" by decide, show ¬ ("Cells" : String) = "_" by decide, not_false_eq_true, if_true]
  cases (List.range' 0 64).all E <;> rfl

theorem run_eqlW (s : Int) (D C : Array Value) (hD : Wav s D) (hC : Wav s C) (E : Nat → Bool)
    (h : ∀ k, k < 64 → ∃ x y a b, D[1 + k]? = some (.complex .f32 x y) ∧ C[1 + k]? = some (.complex .f32 a b) ∧ (Op.floatEq .f32 x a && Op.floatEq .f32 y b) = E k) (w : World) :
    (binOp .eql 32 (.agg D) (.agg C)).run Try.prog w = .ok (.bool ((List.range' 0 64).all E)) w := by
  rw [run_eql_struct, run_eqW s D C hD hC E h w]
  rfl
theorem run_neqW (s : Int) (D C : Array Value) (hD : Wav s D) (hC : Wav s C) (E : Nat → Bool)
    (h : ∀ k, k < 64 → ∃ x y a b, D[1 + k]? = some (.complex .f32 x y) ∧ C[1 + k]? = some (.complex .f32 a b) ∧ (Op.floatEq .f32 x a && Op.floatEq .f32 y b) = E k) (w : World) :
    (binOp .neq 32 (.agg D) (.agg C)).run Try.prog w = .ok (.bool (!(List.range' 0 64).all E)) w := by
  rw [run_neq_struct, run_eqW s D C hD hC E h w]
  rfl

theorem self32 (x : Nat) (h : fin x = true) : Op.floatEq .f32 x x = true := by
  obtain ⟨s, m, p, hr, _⟩ := fin_read x h
  unfold Op.floatEq
  have : FloatKind.f32.format.order x x = some .eq := by
    show (Ieee.single.read x).order (Ieee.single.read x) = _
    rw [hr]
    simp only [Ieee.Datum.order, int_cmp_self]
  rw [this]
  rfl

theorem finW_wav {s : Int} {D : Array Value} (h : FinW s D) : Wav s D := by
  refine ⟨h.1, h.2.1, fun k hk => ?_⟩
  obtain ⟨x, y, hz, _⟩ := h.2.2 k hk
  exact ⟨x, y, hz⟩
/-- a wave of finite cells is no other than itself -/
theorem neq_self (s : Int) (D : Array Value) (h : FinW s D) (w : World) : (binOp .neq 32 (.agg D) (.agg D)).run Try.prog w = .ok (.bool false) w := by
  rw [run_neqW s D D (finW_wav h) (finW_wav h) (fun _ => true) (fun k hk => by
    obtain ⟨x, y, hz, hf⟩ := h.2.2 k hk
    rw [Bool.and_eq_true] at hf
    exact ⟨x, y, x, y, hz, hz, by rw [self32 x hf.1, self32 y hf.2]; rfl⟩) w]
  simp
theorem eql_self (s : Int) (D : Array Value) (h : FinW s D) (w : World) : (binOp .eql 32 (.agg D) (.agg D)).run Try.prog w = .ok (.bool true) w := by
  rw [run_eqlW s D D (finW_wav h) (finW_wav h) (fun _ => true) (fun k hk => by
    obtain ⟨x, y, hz, hf⟩ := h.2.2 k hk
    rw [Bool.and_eq_true] at hf
    exact ⟨x, y, x, y, hz, hz, by rw [self32 x hf.1, self32 y hf.2]; rfl⟩) w]
  simp
end Go.Proofs.Ytdmeinaonliphaa

namespace Go.Proofs.Ytdmeinaonliphaa
open Go Go.RowKit

def reOf : Value → Nat
  | .complex _ x _ => x
  | _ => 0
def imOf : Value → Nat
  | .complex _ _ y => y
  | _ => 0
def reAt (D : Array Value) (k : Nat) : Nat := reOf (D.getD (1 + k) undef)
def imAt (D : Array Value) (k : Nat) : Nat := imOf (D.getD (1 + k) undef)
def nul (x y : Nat) : Bool := (FloatKind.f32.format.order x 0 == some .eq) && (FloatKind.f32.format.order y 0 == some .eq)
/-- may the k-th cell of a wave with n cells be these bits? -/
def okWav (n k x y : Nat) : Bool := (fin x && fin y) && (decide (k < n) || nul x y)
/-- are the first k cells as they have to be? -/
def okWavs (n : Nat) (D : Array Value) : Nat → Bool
  | 0 => true
  | k + 1 => okWavs n D k && okWav n k (reAt D k) (imAt D k)
def isWav (s : Int) (D : Array Value) : Bool := side s && okWavs (s * s).toNat D 64

theorem at_of (D : Array Value) (k x y : Nat) (h : D[1 + k]? = some (.complex .f32 x y)) : reAt D k = x ∧ imAt D k = y := by
  unfold reAt imAt
  rw [Array.getD_eq_getD_getElem?, h]
  exact ⟨rfl, rfl⟩
theorem okWavs_false (n : Nat) (D : Array Value) (k m : Nat) (h : okWavs n D k = false) (hm : k ≤ m) : okWavs n D m = false := by
  induction m with
  | zero => obtain rfl : k = 0 := by omega
            exact h
  | succ m ih =>
    by_cases h1 : k = m + 1
    · subst h1; exact h
    · rw [okWavs, ih (by omega)]; rfl

set_option maxRecDepth 100000 in
set_option maxHeartbeats 400000 in
theorem specIs_no (s : Int) (D : Array Value) (hD : Wav s D) (h : side s = false) (w : World) : Calls Try.prog 85 #[.agg D] w fun e w' => e = .returned (.bool false) ∧ Below w.heap.size w w' := by
  have h0 := hD.2.1
  clear hD
  go_enter Try.func85, Try.ntmps85
  go_wp2_with (go_at_call 74; refine (l01Side_any _ _).mono ?_; rw [h]; rintro e w' ⟨rfl, rfl⟩)
  go_ret
  exact ⟨rfl, (Below.refl _ _).alloc (Nat.le_refl _) _⟩

set_option maxRecDepth 100000 in
set_option maxHeartbeats 1000000 in
theorem specIs_yes (s : Int) (D : Array Value) (hD : Wav s D) (hs : side s = true) (w : World) : Calls Try.prog 85 #[.agg D] w fun e w' => e = .returned (.bool (okWavs (s * s).toNat D 64)) ∧ Below w.heap.size w w' := by
  have h0 := hD.2.1
  have HD := Lib.hid hD.2.2
  clear hD
  obtain ⟨N, hN, hN64, hNs⟩ : ∃ N : Nat, IntKind.i64.wrap (s * s) = (N : Int) ∧ N ≤ 64 ∧ (s * s).toNat = N := by
    rcases side_yes s hs with rfl | rfl | rfl | rfl
    · exact ⟨1, rfl, by omega, rfl⟩
    · exact ⟨4, rfl, by omega, rfl⟩
    · exact ⟨16, rfl, by omega, rfl⟩
    · exact ⟨64, rfl, by omega, rfl⟩
  rw [hNs]
  clear hNs
  go_enter Try.func85, Try.ntmps85
  go_wp2_with (go_at_call 74; refine (l01Side_any _ _).mono ?_; rw [hs]; rintro e w' ⟨rfl, rfl⟩)
  clear hs
  go_loopw [3] (fun i wr => ∃ k n : Nat, k ≤ 64 ∧ i = .int .i64 k ∧ Hid (okWavs N D k = true) ∧ wr = (w.alloc (.cells D 32)).drewN n) (fun i _ => 64 - (intOf i).toNat)
  case atStart => exact ⟨0, 0, by omega, rfl, Lib.hid rfl, rfl⟩
  case round =>
    obtain ⟨k, n, hk, rfl, hok, rfl⟩ := hrel
    by_cases hlt : k < 64
    · obtain ⟨x, y, hzk⟩ := HD.out k hlt
      have hat := at_of D k x y hzk
      have HN : Hid (okWavs N D (k + 1) = okWav N k x y) := Lib.hid (by rw [okWavs, hok.out, hat.1, hat.2]; rfl)
      clear hat
      cases hf : fin x && fin y
      · have HF : Hid (okWavs N D 64 = false) := Lib.hid (okWavs_false N D (k + 1) 64 (by rw [HN.out]; simp [okWav, hf]) (by omega))
        go_wp2_with (go_at_call 81; refine (whole_any _ _ _).mono ?_; rw [hf]; rintro e w' ⟨rfl, n', rfl⟩)
        go_ret
        exact ⟨by rw [HF.out]; rfl, below_drewN ((Below.refl _ _).alloc (Nat.le_refl _) _) _⟩
      · by_cases hkn : k < N
        · have HF : Hid (okWavs N D (k + 1) = true) := Lib.hid (by rw [HN.out]; simp [okWav, hf, hkn])
          go_wp2_with (go_at_call 81; refine (whole_any _ _ _).mono ?_; rw [hf]; rintro e w' ⟨rfl, n', rfl⟩)
          exact ⟨⟨k + 1, n + n', by omega, by go_num, HF, rfl⟩, by simp [intOf]; omega⟩
        · go_wp2_with (go_at_call 81; refine (whole_any _ _ _).mono ?_; rw [hf]; rintro e w' ⟨rfl, n', rfl⟩)
          · rename_i hne
            have hz : nul x y = false := by
              unfold nul
              rcases hne with h | h
              · rw [Bool.not_eq_true'] at h; rw [h]; rfl
              · rw [Bool.not_eq_true'] at h; rw [h, Bool.and_false]
            have HF : Hid (okWavs N D 64 = false) := Lib.hid (okWavs_false N D (k + 1) 64 (by rw [HN.out]; simp [okWav, hkn, hz]) (by omega))
            go_ret
            exact ⟨by rw [HF.out]; rfl, below_drewN ((Below.refl _ _).alloc (Nat.le_refl _) _) _⟩
          · rename_i hne
            have hz : nul x y = true := by
              unfold nul
              obtain ⟨h1, h2⟩ := hne
              rw [Bool.not_eq_false'] at h1 h2
              rw [h1, h2]; rfl
            have HF : Hid (okWavs N D (k + 1) = true) := Lib.hid (by rw [HN.out]; simp [okWav, hf, hz])
            exact ⟨⟨k + 1, n + n', by omega, by go_num, HF, rfl⟩, by simp [intOf]; omega⟩
    · obtain rfl : k = 64 := by omega
      go_wp2
      go_ret
      exact ⟨by rw [hok.out]; rfl, below_drewN ((Below.refl _ _).alloc (Nat.le_refl _) _) _⟩

theorem specIs_any (s : Int) (D : Array Value) (hD : Wav s D) (w : World) : Calls Try.prog 85 #[.agg D] w fun e w' => e = .returned (.bool (isWav s D)) ∧ Below w.heap.size w w' := by
  unfold isWav
  cases hs : side s
  · exact specIs_no s D hD hs w
  · exact specIs_yes s D hD hs w
end Go.Proofs.Ytdmeinaonliphaa
