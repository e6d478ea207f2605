/- Many cells stored into the middle of a block that is known whole, and loaded out of it: the block behind it, known whole again. Condition: they fit. -/
import Derived.Test.YtjmfffgddmnkmabM0
import Derived.Deep.MidRow
namespace Go.Proofs.Ytjmfffgddmnkmab
open Go Go.RowKit

/-- cells laid over others from a place on -/
def onto (C : Array Value) (o : Nat) : List Value → Array Value
  | [] => C
  | v :: r => onto (C.setIfInBounds o v) (o + 1) r
theorem onto_size (vs : List Value) : ∀ (C : Array Value) (o : Nat), (onto C o vs).size = C.size := by
  induction vs with
  | nil => intro C o; rfl
  | cons v r ih => intro C o; simp [onto, ih]
theorem onto_get (vs : List Value) : ∀ (C : Array Value) (o i : Nat), o + vs.length ≤ C.size → (onto C o vs)[i]? = if o ≤ i ∧ i < o + vs.length then vs[i - o]? else C[i]? := by
  induction vs with
  | nil => intro C o i _; simp [onto]; omega
  | cons v r ih =>
    intro C o i h
    simp only [List.length_cons] at h ⊢
    rw [onto, ih _ _ _ (by simp; omega), Array.getElem?_setIfInBounds]
    by_cases h1 : o = i
    · subst h1
      simp [show o < C.size by omega, show ¬ o + 1 ≤ o by omega]
    · by_cases h2 : o + 1 ≤ i ∧ i < o + 1 + r.length
      · rw [if_pos h2, if_pos (by omega), show i - o = (i - (o + 1)) + 1 by omega]
        simp
      · rw [if_neg h2, if_neg h1, if_neg (by omega)]
theorem setCells_row (b : Nat) (t : TypeId) (vs : List Value) : ∀ (o : Nat) (w : World) (C : Array Value), w.heap[b]? = some (.cells C t (0, 0)) → w.setCells b o vs = w.setRow b (onto C o vs) := by
  induction vs with
  | nil => intro o w C h; rw [World.setCells]; exact (setRow_self w b C t (0, 0) h).symm
  | cons v r ih =>
    intro o w C h
    rw [World.setCells, onto, setCell_eq_setRow w b o C t (0, 0) v h, ih (o + 1) _ _ (setRow_heap w b C _ t _ h), setRow_setRow]
theorem there_row (w : World) (b o n : Nat) (t : TypeId) (C : Array Value) (h : w.heap[b]? = some (.cells C t (0, 0))) (hn : o + n ≤ C.size) : w.there b o n := by
  intro j hj
  refine ⟨?_, frozen_of_row w b _ C t h⟩
  rw [cell_of_row w b (o + j) C t (0, 0) h, Array.getElem?_eq_getElem (by omega)]
  rfl
theorem range_row (w : World) (b o : Nat) (t : TypeId) (C : Array Value) (fr : Nat × Nat) (vs : List Value) (h : w.heap[b]? = some (.cells C t fr)) (hv : ∀ j, j < vs.length → C[o + j]? = vs[j]?) : w.rangeAt b o vs := by
  intro j v hj
  rw [cell_of_row w b (o + j) C t fr h, hv j (List.getElem?_eq_some_iff.1 hj).1, hj]

section
variable {P : Program}
theorem wpList_store_onto {ops : Array Oper} {rest : List Oper} {op : Oper} {a : Act} {w : World} {Q : Exit → Act → World → Prop} (hgd : op.guard = none) (ty : TypeId) (x y : Operand) (ho : op.op = .store ty x y)
    (b o : Nat) (cells : Array Value) (hx : a.eval x = .pointer (some ⟨b, o, none⟩)) (hy : a.eval y = .agg cells)
    (t : TypeId) (C : Array Value) (hg : w.heap[b]? = some (.cells C t (0, 0))) (hn : o + cells.size ≤ C.size) (hi : (P.info? ty).map (·.size) = some cells.size) (h1 : cells.all (·.oneCell') = true)
    (h : wpList P ops Q rest (a.put op.dst undef) (w.setRow b (onto C o cells.toList))) : wpList P ops Q (op :: rest) a w :=
  wpList_store_mid hgd ty x y ho b o cells hx hy (there_row w b o _ t C hg hn) hi h1 (by rw [setCells_row b t _ o w C hg]; exact h)
theorem wpList_load_part {ops : Array Oper} {rest : List Oper} {op : Oper} {a : Act} {w : World} {Q : Exit → Act → World → Prop} (hgd : op.guard = none) (ty : TypeId) (x : Operand) (ho : op.op = .load ty x)
    (b o : Nat) (hx : a.eval x = .pointer (some ⟨b, o, none⟩)) (vs : Array Value) (d : TypeDesc) (t : TypeId) (C : Array Value) (fr : Nat × Nat) (hg : w.heap[b]? = some (.cells C t fr)) (hv : ∀ j, j < vs.size → C[o + j]? = vs[j]?)
    (hu : P.underlying ty = some d) (hd : d.isRow = true) (hi : (P.info? ty).map (·.size) = some vs.size)
    (h : wpList P ops Q rest (a.put op.dst (.agg vs)) w) : wpList P ops Q (op :: rest) a w :=
  wpList_load_mid hgd ty x ho b o hx vs.toList d (range_row w b o t C fr vs.toList hg (fun j hj => by simpa using hv j (by simpa using hj))) hu hd (by simpa using hi) (by simpa using h)
end

/-- a picture's cells -/
def pic (s : Int) (zs : Array Value) : Array Value := #[.int .i64 s] ++ zs
theorem pic_zero (s : Int) (zs : Array Value) : (pic s zs)[0]? = some (.int .i64 s) := by
  unfold pic
  rw [Array.getElem?_append_left (by simp)]; rfl
theorem pic_succ (s : Int) (zs : Array Value) (i : Nat) : (pic s zs)[i + 1]? = zs[i]? := by
  unfold pic
  rw [Array.getElem?_append_right (by simp)]; simp
theorem pic_size (s : Int) (zs : Array Value) (h : zs.size = 64) : (pic s zs).size = 65 := by simp [pic, h]
theorem pic_part (s : Int) (zs : Array Value) : ∀ j, j < zs.size → (pic s zs)[1 + j]? = zs[j]? := fun j _ => by rw [Nat.add_comm, pic_succ]
theorem pic_onto (s : Int) (zs Z : Array Value) (h : zs.size = 64) (hZ : Z.size = 65) : onto (Z.setIfInBounds 0 (.int .i64 s)) 1 zs.toList = pic s zs := by
  apply Array.ext_getElem?
  intro i
  rw [onto_get _ _ _ _ (by simp [h, hZ])]
  cases i with
  | zero => simp [pic_zero, hZ]
  | succ i =>
    rw [pic_succ]
    by_cases hi : i < 64
    · simp [h, show i < 64 from hi]; omega
    · rw [if_neg (by simp [h]; omega)]
      rw [Array.getElem?_eq_none (by simp [hZ]; omega), Array.getElem?_eq_none (by omega)]
theorem pic_one (s : Int) (zs : Array Value) (hz : Floats zs) : (pic s zs).all (·.oneCell') = true := by
  unfold pic
  rw [Array.all_append, floats_one zs hz]
  simp [Value.oneCell']

theorem setRow_al2 (w : World) (A : Obj) (Z cs : Array Value) (t : TypeId) : ((w.alloc A).alloc (.cells Z t)).setRow (w.heap.size + 1) cs = (w.alloc A).alloc (.cells cs t) := by
  have h := World.setRow_alloc_new (w.alloc A) Z cs t
  rwa [size_al] at h

theorem pic_set0 (s t : Int) (zs : Array Value) : (pic s zs).setIfInBounds 0 (.int .i64 t) = pic t zs := by
  apply Array.ext_getElem?
  intro i
  rw [Array.getElem?_setIfInBounds]
  cases i with
  | zero => rw [if_pos rfl, if_pos (by simp [pic]; omega), pic_zero]
  | succ i => rw [if_neg (by omega), pic_succ, pic_succ]

theorem setCell_al2 (w : World) (A : Obj) (C : Array Value) (t : TypeId) (n j : Nat) (v : Value) :
    (((w.alloc A).alloc (.cells C t)).drewN n).setCell ⟨w.heap.size + 1, j, none⟩ v = ((w.alloc A).alloc (.cells (C.setIfInBounds j v) t)).drewN n := by
  have h := World.setCell_alloc_at (w := w.alloc A) C t (w.heap.size + 1) j v (by rw [size_al])
  rw [← h]
  rfl

theorem below_al2 (w : World) (A B : Obj) : Below w.heap.size w ((w.alloc A).alloc B) := ((Below.refl _ _).alloc (Nat.le_refl _) _).alloc (by rw [size_al]; omega) _

end Go.Proofs.Ytjmfffgddmnkmab
