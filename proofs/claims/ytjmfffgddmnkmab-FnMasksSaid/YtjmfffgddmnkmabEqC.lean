/- When two waves are equal by Go's own word. Condition: 64 complex numbers each. -/
import Derived.Test.YtjmfffgddmnkmabM14
import Derived.Test.YtjmfffgddmnkmabM12
import Derived.Test.YtjmfffgddmnkmabM15
import Derived.Laws.StructEq
namespace Go.Proofs.Ytjmfffgddmnkmab
open Go Go.RowKit

theorem run_partC (zs : Array Value) (i x y : Nat) (h : zs[i]? = some (.complex .f32 x y)) (w : World) : (part 27 zs (i * 1)).run Try.prog w = .ok (.complex .f32 x y) w := by
  have a := Try.isAgg27
  simp [part, a, h]

theorem run_eqC (d x y a b : Nat) (w : World) : (Op.equalIn (d + 1) 27 (.complex .f32 x y) (.complex .f32 a b)).run Try.prog w = .ok (Op.floatEq .f32 x a && Op.floatEq .f32 y b) w := by
  simp [Op.equalIn, run_underlying Try.underlying27]

theorem run_eqA (zs ys : Array Value) (E : Nat → Bool) (h : ∀ k, k < 64 → ∃ x y a b, zs[k]? = some (.complex .f32 x y) ∧ ys[k]? = some (.complex .f32 a b) ∧ (Op.floatEq .f32 x a && Op.floatEq .f32 y b) = E k) (d : Nat) (w : World) :
    (Op.equalIn (d + 2) 28 (.agg zs) (.agg ys)).run Try.prog w = .ok ((List.range' 0 64).all E) w := by
  have z := Try.sizeOf27
  rw [Op.equalIn]
  simp only [Sem.run_bind, run_underlying Try.underlying28, Result.andThen_ok, z, Std.Legacy.Range.forIn_eq_forIn_range', Std.Legacy.Range.size, Nat.sub_zero, Nat.add_sub_cancel, Nat.div_one]
  have hl : ∀ i ∈ List.range' 0 64, i < 64 := by simp
  generalize List.range' 0 64 = l at *
  induction l with
  | nil => simp
  | cons i l ih =>
    obtain ⟨x, y, a, b, hx, hy, hE⟩ := h i (hl i (by simp))
    have ih' := ih (fun j hj => hl j (by simp [hj]))
    simp only [List.forIn_cons, Sem.run_bind, run_partC zs i x y hx, run_partC ys i a b hy, Result.andThen_ok, run_eqC, hE, List.all_cons]
    cases E i
    · simp
    · simpa using ih'

theorem run_partW (D : Array Value) (w : World) : (part 28 D 1).run Try.prog w = .ok (.agg (D.extract 1 65)) w := by
  have a := Try.isAgg28
  have z := Try.sizeOf28
  simp [part, a, z]

theorem ext_get (D : Array Value) (h : D.size = 65) (k : Nat) (hk : k < 64) : (D.extract 1 65)[k]? = D[1 + k]? := by
  rw [Array.getElem?_extract, if_pos (by omega)]

theorem run_eqW (s : Int) (D C : Array Value) (hD : Wav s D) (hC : Wav s C) (E : Nat → Bool)
    (h : ∀ k, k < 64 → ∃ x y a b, D[1 + k]? = some (.complex .f32 x y) ∧ C[1 + k]? = some (.complex .f32 a b) ∧ (Op.floatEq .f32 x a && Op.floatEq .f32 y b) = E k) (w : World) :
    (Op.equalIn 10000 30 (.agg D) (.agg C)).run Try.prog w = .ok ((List.range' 0 64).all E) w := by
  have hS : Try.prog.underlying 30 = some (.struct (Try.prog.fieldsOf 30)) := by kernel_rfl
  have hp : Try.prog.stoodInHeld 30 = false := by kernel_rfl
  rw [show (10000 : Nat) = 9999 + 1 from rfl, run_equalIn_agg w 9999 30 _ _ hS hp]
  have p1 : ∀ (D : Array Value), Wav s D → ∀ w : World, (part 2 D 0).run Try.prog w = .ok (.int .i64 s) w := by
    intro D hD w
    have a := Try.isAgg2
    simp [part, a, hD.2.1]
  have q1 := p1 D hD
  have q2 := p1 C hC
  have e1 := fun w => run_equalIn_int (P := Try.prog) w 9998 2 .i64 .i64 s s Try.underlying2
  have e2 := run_eqA (D.extract 1 65) (C.extract 1 65) E (fun k hk => by rw [ext_get D hD.1 k hk, ext_get C hC.1 k hk]; exact h k hk) 9997
  have p2 := run_partW D
  have p3 := run_partW C
  simp only [Program.fieldsOf, Try.underlying30]
  simp only [Op.eqFields, Sem.run_bind, Sem.run_ite, q1, q2, p2, p3, e1, e2, Result.andThen_ok]
  simp only [beq_self_eq_true, Bool.not_true, Bool.false_eq_true, if_false, ne_eq, show ¬ ("Side" : String) = "_" by decide, show ¬ ("Cells" : String) = "_" by decide, not_false_eq_true, if_true]
  cases (List.range' 0 64).all E <;> rfl

theorem run_eqlW (s : Int) (D C : Array Value) (hD : Wav s D) (hC : Wav s C) (E : Nat → Bool)
    (h : ∀ k, k < 64 → ∃ x y a b, D[1 + k]? = some (.complex .f32 x y) ∧ C[1 + k]? = some (.complex .f32 a b) ∧ (Op.floatEq .f32 x a && Op.floatEq .f32 y b) = E k) (w : World) :
    (binOp .eql 30 (.agg D) (.agg C)).run Try.prog w = .ok (.bool ((List.range' 0 64).all E)) w := by
  rw [run_eql_struct, run_eqW s D C hD hC E h w]
  rfl
theorem run_neqW (s : Int) (D C : Array Value) (hD : Wav s D) (hC : Wav s C) (E : Nat → Bool)
    (h : ∀ k, k < 64 → ∃ x y a b, D[1 + k]? = some (.complex .f32 x y) ∧ C[1 + k]? = some (.complex .f32 a b) ∧ (Op.floatEq .f32 x a && Op.floatEq .f32 y b) = E k) (w : World) :
    (binOp .neq 30 (.agg D) (.agg C)).run Try.prog w = .ok (.bool (!(List.range' 0 64).all E)) w := by
  rw [run_neq_struct, run_eqW s D C hD hC E h w]
  rfl

theorem self32 (x : Nat) (h : fin x = true) : Op.floatEq .f32 x x = true := by
  obtain ⟨s, m, p, hr, _⟩ := fin_read x h
  unfold Op.floatEq
  have : FloatKind.f32.format.order x x = some .eq := by
    show (Ieee.single.read x).order (Ieee.single.read x) = _
    rw [hr]
    simp only [Ieee.Datum.order, int_cmp_self]
  rw [this]
  rfl

theorem finW_wav {s : Int} {D : Array Value} (h : FinW s D) : Wav s D := by
  refine ⟨h.1, h.2.1, fun k hk => ?_⟩
  obtain ⟨x, y, hz, _⟩ := h.2.2 k hk
  exact ⟨x, y, hz⟩
/-- a wave of finite cells is no other than itself -/
theorem neq_self (s : Int) (D : Array Value) (h : FinW s D) (w : World) : (binOp .neq 30 (.agg D) (.agg D)).run Try.prog w = .ok (.bool false) w := by
  rw [run_neqW s D D (finW_wav h) (finW_wav h) (fun _ => true) (fun k hk => by
    obtain ⟨x, y, hz, hf⟩ := h.2.2 k hk
    rw [Bool.and_eq_true] at hf
    exact ⟨x, y, x, y, hz, hz, by rw [self32 x hf.1, self32 y hf.2]; rfl⟩) w]
  simp
theorem eql_self (s : Int) (D : Array Value) (h : FinW s D) (w : World) : (binOp .eql 30 (.agg D) (.agg D)).run Try.prog w = .ok (.bool true) w := by
  rw [run_eqlW s D D (finW_wav h) (finW_wav h) (fun _ => true) (fun k hk => by
    obtain ⟨x, y, hz, hf⟩ := h.2.2 k hk
    rw [Bool.and_eq_true] at hf
    exact ⟨x, y, x, y, hz, hz, by rw [self32 x hf.1, self32 y hf.2]; rfl⟩) w]
  simp
end Go.Proofs.Ytjmfffgddmnkmab
