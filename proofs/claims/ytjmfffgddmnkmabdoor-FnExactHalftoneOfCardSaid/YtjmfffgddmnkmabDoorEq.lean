/- When two pictures are equal by Go's own word. Condition: 64 floats each. -/
import Derived.Test.YtjmfffgddmnkmabDoorSide
import Derived.Laws.StructEq
import Derived.Test.YtjmfffgddmnkmabDoorPicI
namespace Go.Proofs.YtjmfffgddmnkmabDoor
open Go Go.RowKit

theorem run_part27 (zs : Array Value) (i x : Nat) (h : zs[i]? = some (.float .f32 x)) (w : World) : (part 30 zs (i * 1)).run Tryd.prog w = .ok (.float .f32 x) w := by
  have a := Tryd.isAgg30
  simp [part, a, h]

theorem run_eq27 (d x y : Nat) (w : World) : (Op.equalIn (d + 1) 30 (.float .f32 x) (.float .f32 y)).run Tryd.prog w = .ok (Op.floatEq .f32 x y) w := by
  simp [Op.equalIn, run_underlying Tryd.underlying30]

theorem run_eq28 (zs ys : Array Value) (E : Nat → Bool) (h : ∀ k, k < 64 → ∃ x y, zs[k]? = some (.float .f32 x) ∧ ys[k]? = some (.float .f32 y) ∧ Op.floatEq .f32 x y = E k) (d : Nat) (w : World) :
    (Op.equalIn (d + 2) 31 (.agg zs) (.agg ys)).run Tryd.prog w = .ok ((List.range' 0 64).all E) w := by
  have z := Tryd.sizeOf30
  rw [Op.equalIn]
  simp only [Sem.run_bind, run_underlying Tryd.underlying31, Result.andThen_ok, z, Std.Legacy.Range.forIn_eq_forIn_range', Std.Legacy.Range.size, Nat.sub_zero, Nat.add_sub_cancel, Nat.div_one]
  have hl : ∀ i ∈ List.range' 0 64, i < 64 := by simp
  generalize List.range' 0 64 = l at *
  induction l with
  | nil => simp
  | cons i l ih =>
    obtain ⟨x, y, hx, hy, hE⟩ := h i (hl i (by simp))
    have ih' := ih (fun j hj => hl j (by simp [hj]))
    simp only [List.forIn_cons, Sem.run_bind, run_part27 zs i x hx, run_part27 ys i y hy, Result.andThen_ok, run_eq27, hE, List.all_cons]
    cases E i
    · simp
    · simpa using ih'

theorem run_part28 (s : Int) (zs : Array Value) (hz : zs.size = 64) (w : World) : (part 31 (pic s zs) 1).run Tryd.prog w = .ok (.agg zs) w := by
  have a := Tryd.isAgg31
  have z := Tryd.sizeOf31
  have e : (pic s zs).extract 1 65 = zs := by
    apply Array.ext_getElem?
    intro i
    rw [Array.getElem?_extract, Nat.add_comm, pic_succ]
    by_cases h : i < 64
    · rw [if_pos (by rw [pic_size s zs hz]; omega)]
    · rw [if_neg (by rw [pic_size s zs hz]; omega), Array.getElem?_eq_none (by omega)]
  simp [part, a, z, e]

theorem run_eq32 (s : Int) (zs ys : Array Value) (hz : zs.size = 64) (hy : ys.size = 64) (E : Nat → Bool) (h : ∀ k, k < 64 → ∃ x y, zs[k]? = some (.float .f32 x) ∧ ys[k]? = some (.float .f32 y) ∧ Op.floatEq .f32 x y = E k) (w : World) :
    (binOp .eql 36 (.agg (pic s zs)) (.agg (pic s ys))).run Tryd.prog w = .ok (.bool ((List.range' 0 64).all E)) w := by
  have hS : Tryd.prog.underlying 36 = some (.struct (Tryd.prog.fieldsOf 36)) := by kernel_rfl
  have hp : Tryd.prog.stoodInHeld 36 = false := by kernel_rfl
  rw [run_eql_struct, show (10000 : Nat) = 9999 + 1 from rfl, run_equalIn_agg w 9999 36 _ _ hS hp]
  have p1 : ∀ (zs : Array Value) (w : World), (part 2 (pic s zs) 0).run Tryd.prog w = .ok (.int .i64 s) w := by
    intro zs w
    have a := Tryd.isAgg2
    simp [part, a, pic_zero]
  have e1 := fun w => run_equalIn_int (P := Tryd.prog) w 9998 2 .i64 .i64 s s Tryd.underlying2
  have e2 := run_eq28 zs ys E h 9997
  have p2 := run_part28 s zs hz
  have p3 := run_part28 s ys hy
  simp only [Program.fieldsOf, Tryd.underlying36]
  simp only [Op.eqFields, Sem.run_bind, Sem.run_ite, p1, p2, p3, e1, e2, Result.andThen_ok]
  simp only [beq_self_eq_true, Bool.not_true, Bool.false_eq_true, if_false, ne_eq, show ¬ ("Side" : String) = "_" by decide, show ¬ ("Levels" : String) = "_" by decide, not_false_eq_true, if_true]
  cases (List.range' 0 64).all E <;> rfl
end Go.Proofs.YtjmfffgddmnkmabDoor
