/- A map whose keys are waves, of at most two entries: what is asked of it and put into it. Condition: 64 complex numbers each. -/
import Derived.Test.YtjmfffgddmnkmabEqC
import Derived.MapKept
namespace Go.Proofs.Ytjmfffgddmnkmab
open Go Go.RowKit

theorem run_checkKeyA (emp : Bool) (n : Nat) (zs : Array Value) (hz : ∀ k, k < 64 → ∃ x y, zs[k]? = some (.complex .f32 x y)) (w : World) : (Instr.checkKey emp (n + 2) 28 (.agg zs)).run Try.prog w = .ok () w := by
  have z := Try.sizeOf27
  have kC : ∀ x y, (Instr.checkKey emp (n + 1) 27 (.complex .f32 x y)).run Try.prog w = .ok () w := by
    intro x y
    simp [Instr.checkKey, run_underlying Try.underlying27]
  rw [Instr.checkKey]
  simp only [Sem.run_bind, run_underlying Try.underlying28, Result.andThen_ok, Std.Legacy.Range.forIn_eq_forIn_range', Std.Legacy.Range.size, Nat.sub_zero, Nat.add_sub_cancel, Nat.div_one]
  have hl : ∀ i ∈ List.range' 0 64, i < 64 := by simp
  generalize List.range' 0 64 = l at *
  induction l with
  | nil => simp
  | cons i l ih =>
    obtain ⟨x, y, hx⟩ := hz i (hl i (by simp))
    have ih' := ih (fun j hj => hl j (by simp [hj]))
    simp only [List.forIn_cons, Sem.run_bind, z, run_partC zs i x y hx, Result.andThen_ok, kC, Sem.run_pure]
    simpa only [Sem.run_bind, Sem.run_pure] using ih'

theorem run_checkKeyW (emp : Bool) (s : Int) (D : Array Value) (hD : Wav s D) (w : World) : (Instr.checkKey emp 10000 30 (.agg D)).run Try.prog w = .ok () w := by
  have a := Try.isAgg2
  have p1 : (part 2 D 0).run Try.prog w = .ok (.int .i64 s) w := by simp [part, a, hD.2.1]
  have p2 := run_partW D w
  have k0 : ∀ n, (Instr.checkKey emp (n + 1) 2 (.int .i64 s)).run Try.prog w = .ok () w := by
    intro n
    simp [Instr.checkKey, run_underlying Try.underlying2]
  have k1 : (Instr.checkKey emp 9999 2 (.int .i64 s)).run Try.prog w = .ok () w := k0 9998
  have k2 : (Instr.checkKey emp 9999 28 (.agg (D.extract 1 65))).run Try.prog w = .ok () w :=
    run_checkKeyA emp 9997 _ (fun k hk => by rw [ext_get D hD.1 k hk]; exact hD.2.2 k hk) w
  rw [show (10000 : Nat) = 9999 + 1 from rfl, Instr.checkKey]
  simp only [Sem.run_bind, run_underlying Try.underlying30, Result.andThen_ok]
  simp [p1, p2, k1, k2]

theorem look_empty (s : Int) (D : Array Value) (hD : Wav s D) (b c : Nat) (w : World) (hb : w.heap[b]? = some (.map #[] c)) : (Instr.lookup 128 (.map (some b)) (.agg D) false).run Try.prog w = .ok (.bool false) w := by
  have hz : (zeroValue 4).run Try.prog w = .ok (.bool false) w := by kernel_rfl
  have hg : (getObj b).run Try.prog w = .ok (.map #[] c) w := by simp [getObj, Sem.run, hb]
  unfold Instr.lookup
  simp only [Sem.run_bind, run_underlying Try.underlying128, Result.andThen_ok, hg, Sem.run_pure, run_checkKeyW _ s D hD, Instr.findKey, run_underlying Try.underlying30, Instr.findNow, hz]
  simp

/-- the entry of a wave -/
def entry (A : Array Value) : MapEntry := { key := .agg A, val := .bool true, born := 0 }
theorem look_one (s : Int) (A B : Array Value) (hA : Wav s A) (hB : Wav s B) (E : Nat → Bool)
    (h : ∀ k, k < 64 → ∃ x y a b, B[1 + k]? = some (.complex .f32 x y) ∧ A[1 + k]? = some (.complex .f32 a b) ∧ (Op.floatEq .f32 x a && Op.floatEq .f32 y b) = E k)
    (b c : Nat) (w : World) (hb : w.heap[b]? = some (.map #[entry A] c)) : (Instr.lookup 128 (.map (some b)) (.agg B) false).run Try.prog w = .ok (.bool ((List.range' 0 64).all E)) w := by
  have hz : (zeroValue 4).run Try.prog w = .ok (.bool false) w := by kernel_rfl
  have he : (Op.equal 30 (.agg B) (.agg A)).run Try.prog w = .ok ((List.range' 0 64).all E) w := run_eqW s B A hB hA E h w
  have hg : (getObj b).run Try.prog w = .ok (.map #[entry A] c) w := by simp [getObj, Sem.run, hb]
  unfold Instr.lookup
  simp only [Sem.run_bind, run_underlying Try.underlying128, Result.andThen_ok, hg, Sem.run_pure, run_checkKeyW _ s B hB, Instr.findKey, run_underlying Try.underlying30]
  simp only [Instr.findNow, Instr.sameNow, Instr.findAsking, entry, Sem.run_bind, he, Result.andThen_ok]
  cases (List.range' 0 64).all E
  · simp [hz]
  · simp

/-- an object put in its place -/
def putM (w : World) (b : Nat) (o : Obj) : World := { w with heap := w.heap.setIfInBounds b o }
theorem putM_same (w : World) (b : Nat) (o q : Obj) (h : w.heap[b]? = some q) : (putM w b o).heap[b]? = some o := by
  have := (Array.getElem?_eq_some_iff.1 h).1
  simp [putM, this]
theorem putM_other (w : World) (b i : Nat) (o : Obj) (h : i ≠ b) : (putM w b o).heap[i]? = w.heap[i]? := by
  simp [putM, Ne.symm h]
theorem putM_below {B : Nat} {a w : World} (h : Below B a w) (b : Nat) (hb : B ≤ b) (o : Obj) : Below B a (putM w b o) :=
  ⟨h.os, h.tape, h.output, by show a.heap.size ≤ (w.heap.setIfInBounds b o).size; rw [Array.size_setIfInBounds]; exact h.size, fun i hi => (putM_other w b i o (by omega)).trans (h.block i hi)⟩
theorem put_empty (s : Int) (D : Array Value) (hD : Wav s D) (b : Nat) (w : World) (hb : w.heap[b]? = some (.map #[] 0)) : (Instr.mapUpdate 128 (.map (some b)) (.agg D) (.bool true)).run Try.prog w = .ok () (putM w b (.map #[entry D] 1)) := by
  have hg : (getObj b).run Try.prog w = .ok (.map #[] 0) w := by simp [getObj, Sem.run, hb]
  have hs : ∀ o, (setObj b o).run Try.prog w = .ok () (putM w b o) := fun o => by simp [setObj, Sem.run, hb, putM]
  unfold Instr.mapUpdate
  simp only [Sem.run_bind, run_underlying Try.underlying128, Result.andThen_ok, hg, Sem.run_pure, run_checkKeyW _ s D hD, Instr.findKey, run_underlying Try.underlying30, Instr.findNow, hs]
  rfl
theorem put_one (s : Int) (A B : Array Value) (hA : Wav s A) (hB : Wav s B) (E : Nat → Bool)
    (h : ∀ k, k < 64 → ∃ x y a b, B[1 + k]? = some (.complex .f32 x y) ∧ A[1 + k]? = some (.complex .f32 a b) ∧ (Op.floatEq .f32 x a && Op.floatEq .f32 y b) = E k) (hE : (List.range' 0 64).all E = false)
    (b : Nat) (w : World) (hb : w.heap[b]? = some (.map #[entry A] 1)) : ∃ o, (Instr.mapUpdate 128 (.map (some b)) (.agg B) (.bool true)).run Try.prog w = .ok () (putM w b o) := by
  have he : (Op.equal 30 (.agg B) (.agg A)).run Try.prog w = .ok false w := by rw [← hE]; exact run_eqW s B A hB hA E h w
  have hg : (getObj b).run Try.prog w = .ok (.map #[entry A] 1) w := by simp [getObj, Sem.run, hb]
  have hs : ∀ o, (setObj b o).run Try.prog w = .ok () (putM w b o) := fun o => by simp [setObj, Sem.run, hb, putM]
  refine ⟨.map #[entry A, { key := .agg B, val := .bool true, born := 1 }] 2, ?_⟩
  unfold Instr.mapUpdate
  simp only [Sem.run_bind, run_underlying Try.underlying128, Result.andThen_ok, hg, run_checkKeyW _ s B hB, Instr.findKey, run_underlying Try.underlying30]
  simp only [Instr.findNow, Instr.sameNow, Instr.findAsking, entry, Sem.run_bind, he, Result.andThen_ok, Bool.false_eq_true, if_false, Sem.run_pure, hs]
  rfl
end Go.Proofs.Ytjmfffgddmnkmab
