/- The law of gratings, from what the program answers: slits, discs, gratings, checks, zones, blazed gratings and lenses are as told, discs grow with their radius. Condition: a code that can be read; the program's contracts. -/
import Derived.Test.YtjmfffgddmnkmaaSSlitMask
import Derived.Test.YtjmfffgddmnkmaaSDiscMask
import Derived.Test.YtjmfffgddmnkmaaSGratingMask
import Derived.Test.YtjmfffgddmnkmaaSCheckMask
import Derived.Test.YtjmfffgddmnkmaaSZoneMask
import Derived.Test.YtjmfffgddmnkmaaSBlazedWave
import Derived.Test.YtjmfffgddmnkmaaSLensWave
import Derived.Test.YtjmfffgddmnkmaaD3
import Derived.Test.YtjmfffgddmnkmaaM35
import Derived.Test.YtjmfffgddmnkmaaGf
import Derived.Maps.RangeWalk
import Derived.Test.YtjmfffgddmnkmaaM45
import Derived.Test.YtjmfffgddmnkmaaTQ
import Derived.Deep.CutBlock
import Derived.Deep.DeepCutAuto
namespace Go.Proofs.Ytjmfffgddmnkmaa
open Go Go.RowKit

/-- the program's contract for SlitMask -/
def ImplSlitMask : Prop := ∀ (n x d : Int) (w : World), Calls Try.prog 37 #[.int .i64 n, .int .i64 x, .int .i64 d] w fun e w' => e = .returned (.tuple #[.agg (pic (ansSlitMask n x d).1 (ansSlitMask n x d).2.1), .int .i64 (ansSlitMask n x d).2.2]) ∧ Below w.heap.size w w'
theorem bothSlitMask (H : ImplSlitMask) (n x d : Int) : ∃ (s : Int) (F : Array Value) (c : Int), FinW s F ∧
    (∀ w, Calls Try.prog 37 #[.int .i64 n, .int .i64 x, .int .i64 d] w fun e w' => e = .returned (.tuple #[.agg F, .int .i64 c]) ∧ Below w.heap.size w w') ∧
    (∀ w, Calls Try.prog 38 #[.int .i64 n, .int .i64 x, .int .i64 d] w fun e w' => e = .returned (.tuple #[.agg F, .int .i64 c]) ∧ Below w.heap.size w w') ∧ (c = 0 ∧ okSlitMask n x d = true ∧ F = pic n (gf (cellSlitMask n.toNat x d) (n.toNat * n.toNat)) ∨ c = 2) := by
  refine ⟨(ansSlitMask n x d).1, _, (ansSlitMask n x d).2.2, finW_of _ _ (ansSlitMask_cells n x d), H n x d, specSlitMask_any n x d, ?_⟩
  cases h : okSlitMask n x d
  · rw [ansSlitMask_no n x d h]; exact .inr rfl
  · rw [ansSlitMask_yes n x d h]; exact .inl ⟨rfl, rfl, rfl⟩
/-- the program's contract for DiscMask -/
def ImplDiscMask : Prop := ∀ (n v u r : Int) (w : World), Calls Try.prog 42 #[.int .i64 n, .int .i64 v, .int .i64 u, .int .i64 r] w fun e w' => e = .returned (.tuple #[.agg (pic (ansDiscMask n v u r).1 (ansDiscMask n v u r).2.1), .int .i64 (ansDiscMask n v u r).2.2]) ∧ Below w.heap.size w w'
theorem bothDiscMask (H : ImplDiscMask) (n v u r : Int) : ∃ (s : Int) (F : Array Value) (c : Int), FinW s F ∧
    (∀ w, Calls Try.prog 42 #[.int .i64 n, .int .i64 v, .int .i64 u, .int .i64 r] w fun e w' => e = .returned (.tuple #[.agg F, .int .i64 c]) ∧ Below w.heap.size w w') ∧
    (∀ w, Calls Try.prog 43 #[.int .i64 n, .int .i64 v, .int .i64 u, .int .i64 r] w fun e w' => e = .returned (.tuple #[.agg F, .int .i64 c]) ∧ Below w.heap.size w w') ∧ (c = 0 ∧ okDiscMask n v u r = true ∧ F = pic n (gf (cellDiscMask n.toNat v u r) (n.toNat * n.toNat)) ∨ c = 2) := by
  refine ⟨(ansDiscMask n v u r).1, _, (ansDiscMask n v u r).2.2, finW_of _ _ (ansDiscMask_cells n v u r), H n v u r, specDiscMask_any n v u r, ?_⟩
  cases h : okDiscMask n v u r
  · rw [ansDiscMask_no n v u r h]; exact .inr rfl
  · rw [ansDiscMask_yes n v u r h]; exact .inl ⟨rfl, rfl, rfl⟩
/-- the program's contract for GratingMask -/
def ImplGratingMask : Prop := ∀ (n p q : Int) (w : World), Calls Try.prog 46 #[.int .i64 n, .int .i64 p, .int .i64 q] w fun e w' => e = .returned (.tuple #[.agg (pic (ansGratingMask n p q).1 (ansGratingMask n p q).2.1), .int .i64 (ansGratingMask n p q).2.2]) ∧ Below w.heap.size w w'
theorem bothGratingMask (H : ImplGratingMask) (n p q : Int) : ∃ (s : Int) (F : Array Value) (c : Int), FinW s F ∧
    (∀ w, Calls Try.prog 46 #[.int .i64 n, .int .i64 p, .int .i64 q] w fun e w' => e = .returned (.tuple #[.agg F, .int .i64 c]) ∧ Below w.heap.size w w') ∧
    (∀ w, Calls Try.prog 47 #[.int .i64 n, .int .i64 p, .int .i64 q] w fun e w' => e = .returned (.tuple #[.agg F, .int .i64 c]) ∧ Below w.heap.size w w') := by
  refine ⟨(ansGratingMask n p q).1, _, (ansGratingMask n p q).2.2, finW_of _ _ (ansGratingMask_cells n p q), H n p q, specGratingMask_any n p q⟩
/-- the program's contract for CheckMask -/
def ImplCheckMask : Prop := ∀ (n p : Int) (w : World), Calls Try.prog 49 #[.int .i64 n, .int .i64 p] w fun e w' => e = .returned (.tuple #[.agg (pic (ansCheckMask n p).1 (ansCheckMask n p).2.1), .int .i64 (ansCheckMask n p).2.2]) ∧ Below w.heap.size w w'
theorem bothCheckMask (H : ImplCheckMask) (n p : Int) : ∃ (s : Int) (F : Array Value) (c : Int), FinW s F ∧
    (∀ w, Calls Try.prog 49 #[.int .i64 n, .int .i64 p] w fun e w' => e = .returned (.tuple #[.agg F, .int .i64 c]) ∧ Below w.heap.size w w') ∧
    (∀ w, Calls Try.prog 50 #[.int .i64 n, .int .i64 p] w fun e w' => e = .returned (.tuple #[.agg F, .int .i64 c]) ∧ Below w.heap.size w w') := by
  refine ⟨(ansCheckMask n p).1, _, (ansCheckMask n p).2.2, finW_of _ _ (ansCheckMask_cells n p), H n p, specCheckMask_any n p⟩
/-- the program's contract for ZoneMask -/
def ImplZoneMask : Prop := ∀ (n v u q : Int) (w : World), Calls Try.prog 52 #[.int .i64 n, .int .i64 v, .int .i64 u, .int .i64 q] w fun e w' => e = .returned (.tuple #[.agg (pic (ansZoneMask n v u q).1 (ansZoneMask n v u q).2.1), .int .i64 (ansZoneMask n v u q).2.2]) ∧ Below w.heap.size w w'
theorem bothZoneMask (H : ImplZoneMask) (n v u q : Int) : ∃ (s : Int) (F : Array Value) (c : Int), FinW s F ∧
    (∀ w, Calls Try.prog 52 #[.int .i64 n, .int .i64 v, .int .i64 u, .int .i64 q] w fun e w' => e = .returned (.tuple #[.agg F, .int .i64 c]) ∧ Below w.heap.size w w') ∧
    (∀ w, Calls Try.prog 53 #[.int .i64 n, .int .i64 v, .int .i64 u, .int .i64 q] w fun e w' => e = .returned (.tuple #[.agg F, .int .i64 c]) ∧ Below w.heap.size w w') := by
  refine ⟨(ansZoneMask n v u q).1, _, (ansZoneMask n v u q).2.2, finW_of _ _ (ansZoneMask_cells n v u q), H n v u q, specZoneMask_any n v u q⟩
/-- the program's contract for BlazedWave -/
def ImplBlazedWave : Prop := ∀ (n p m : Int) (w : World), Calls Try.prog 55 #[.int .i64 n, .int .i64 p, .int .i64 m] w fun e w' => e = .returned (.tuple #[.agg (pic (ansBlazedWave n p m).1 (ansBlazedWave n p m).2.1), .int .i64 (ansBlazedWave n p m).2.2]) ∧ Below w.heap.size w w'
theorem bothBlazedWave (H : ImplBlazedWave) (n p m : Int) : ∃ (s : Int) (F : Array Value) (c : Int), FinW s F ∧
    (∀ w, Calls Try.prog 55 #[.int .i64 n, .int .i64 p, .int .i64 m] w fun e w' => e = .returned (.tuple #[.agg F, .int .i64 c]) ∧ Below w.heap.size w w') ∧
    (∀ w, Calls Try.prog 56 #[.int .i64 n, .int .i64 p, .int .i64 m] w fun e w' => e = .returned (.tuple #[.agg F, .int .i64 c]) ∧ Below w.heap.size w w') := by
  refine ⟨(ansBlazedWave n p m).1, _, (ansBlazedWave n p m).2.2, finW_of _ _ (ansBlazedWave_cells n p m), H n p m, specBlazedWave_any n p m⟩
/-- the program's contract for LensWave -/
def ImplLensWave : Prop := ∀ (n v u k : Int) (w : World), Calls Try.prog 58 #[.int .i64 n, .int .i64 v, .int .i64 u, .int .i64 k] w fun e w' => e = .returned (.tuple #[.agg (pic (ansLensWave n v u k).1 (ansLensWave n v u k).2.1), .int .i64 (ansLensWave n v u k).2.2]) ∧ Below w.heap.size w w'
theorem bothLensWave (H : ImplLensWave) (n v u k : Int) : ∃ (s : Int) (F : Array Value) (c : Int), FinW s F ∧
    (∀ w, Calls Try.prog 58 #[.int .i64 n, .int .i64 v, .int .i64 u, .int .i64 k] w fun e w' => e = .returned (.tuple #[.agg F, .int .i64 c]) ∧ Below w.heap.size w w') ∧
    (∀ w, Calls Try.prog 59 #[.int .i64 n, .int .i64 v, .int .i64 u, .int .i64 k] w fun e w' => e = .returned (.tuple #[.agg F, .int .i64 c]) ∧ Below w.heap.size w w') := by
  refine ⟨(ansLensWave n v u k).1, _, (ansLensWave n v u k).2.2, finW_of _ _ (ansLensWave_cells n v u k), H n v u k, specLensWave_any n v u k⟩

theorem tot_const (d : Int) (k : Nat) : tot (fun _ => d) k = k * d := by
  induction k with
  | zero => simp [tot]
  | succ k ih => rw [tot, ih, Int.natCast_add, Int.add_mul]; simp

theorem keep4 {a b c d : World} (hA : Below a.heap.size a b) (hB : Below b.heap.size b c) (o : Obj) (hC : Below (c.alloc o).heap.size (c.alloc o) d) (o2 : Obj) (j : Nat) (C : Obj) (h : a.heap[j]? = some C) : (d.alloc o2).heap[j]? = some C := by
  have l1 := (Array.getElem?_eq_some_iff.1 h).1
  have h2 : b.heap[j]? = some C := (hA.block j l1).trans h
  have l2 := (Array.getElem?_eq_some_iff.1 h2).1
  have h3 : c.heap[j]? = some C := (hB.block j l2).trans h2
  have l3 := (Array.getElem?_eq_some_iff.1 h3).1
  have h4 : d.heap[j]? = some C := by rw [hC.block j (by rw [size_al]; omega), heap_alloc_old _ _ l3]; exact h3
  rw [heap_alloc_old _ _ (Array.getElem?_eq_some_iff.1 h4).1]
  exact h4
theorem below4 {w a b c d : World} (hW : Below w.heap.size w a) (hA : Below a.heap.size a b) (hB : Below b.heap.size b c) (o : Obj) (hC : Below (c.alloc o).heap.size (c.alloc o) d) (o2 : Obj) : Below w.heap.size w (d.alloc o2) := by
  have s1 := hW.size
  have h1 := hW.trans (hA.mono s1)
  have h2 := h1.trans (hB.mono h1.size)
  have h3 := h2.alloc h2.size o
  have h4 := h3.trans (hC.mono (by rw [size_al]; have := h2.size; omega))
  exact h4.alloc h4.size o2

section
variable {ops : Array Oper} {rest : List Oper} {o : Oper} {a : Act} {w : World} {Q : Exit → Act → World → Prop}
theorem wpl_val (hgd : Region.wanted o (yielded ops a.tmps) = true) (v : Value) (hrun : (execOp a.eval o).run Try.prog w = .ok (.value v) w) (h : wpList Try.prog ops Q rest (a.put o.dst v) w) : wpList Try.prog ops Q (o :: rest) a w :=
  wpList_step fun K hK => by
    rw [if_pos hgd]
    unfold Oper.wp
    rw [hrun]
    exact hK _ _ h
theorem wanted_no {y : Nat → Option Bool} (hg : o.guard = none) : Region.wanted o y = true := by unfold Region.wanted; rw [hg]
theorem wanted_of {j : Nat} {b : Bool} {d : Tmp} (hg : o.guard = some (j, b)) (hp : (ops[j]?).bind (·.dst) = some d) (hd : a.tmps[d]? = some (.bool b)) : Region.wanted o (yielded ops a.tmps) = true := by
  unfold Region.wanted yielded
  rw [hg]
  simp only [hp, Option.bind_some, hd]
  simp
theorem wpl_move (x : Operand) (ho : o.op = .move x) (hgd : Region.wanted o (yielded ops a.tmps) = true) (v : Value) (hx : a.eval x = v) (h : wpList Try.prog ops Q rest (a.put o.dst v) w) : wpList Try.prog ops Q (o :: rest) a w :=
  wpl_val hgd v (by unfold execOp; simp only [ho, hx, Sem.run_pure]) h
theorem wpl_neqInt (t t' : TypeId) (x y : Operand) (ho : o.op = .binOp .neq t x y t') (hgd : Region.wanted o (yielded ops a.tmps) = true) (k : IntKind) (c : Int) (hx : a.eval x = .int k c) (hy : a.eval y = .int k c) (h : wpList Try.prog ops Q rest (a.put o.dst (.bool false)) w) : wpList Try.prog ops Q (o :: rest) a w :=
  wpl_val hgd (.bool false) (by
    unfold execOp
    simp only [ho, hx, hy, eqGuard_at_int, Sem.run_bind, Sem.run_pure, Result.andThen_ok]
    simp [binOp, Op.intCmp]) h
theorem wpl_neqW (x y : Operand) (ho : o.op = .binOp .neq 32 x y 32) (hgd : Region.wanted o (yielded ops a.tmps) = true) (F G : Array Value) (hx : a.eval x = .agg F) (hy : a.eval y = .agg G) (hne : ∀ w, (binOp .neq 32 (.agg F) (.agg G)).run Try.prog w = .ok (.bool false) w)
    (h : wpList Try.prog ops Q rest (a.put o.dst (.bool false)) w) : wpList Try.prog ops Q (o :: rest) a w :=
  wpl_val hgd (.bool false) (by
    have hg : (eqGuard .neq 32 x y (.agg F) (.agg G)).run Try.prog w = .ok () w := by kernel_rfl
    unfold execOp
    simp only [ho, hx, hy, Sem.run_bind, hg, hne, Result.andThen_ok, Sem.run_pure]) h
theorem wpl_pick (c x y : Operand) (ho : o.op = .pick c x y) (hgd : Region.wanted o (yielded ops a.tmps) = true) (hc : a.eval c = .bool false) (v : Value) (hy : a.eval y = v) (h : wpList Try.prog ops Q rest (a.put o.dst v) w) : wpList Try.prog ops Q (o :: rest) a w :=
  wpl_val hgd v (by unfold execOp; simp [ho, hc, hy, asBool]) h
theorem wpl_load (x : Operand) (ho : o.op = .load 32 x) (hgd : Region.wanted o (yielded ops a.tmps) = true)
    (g : Nat) (hx : a.eval x = .pointer (some ⟨g, 0, none⟩)) (cs : Array Value) (hg : w.heap[g]? = some (.cells cs 32 (0, 0))) (hi : (Try.prog.info? 32).map (·.size) = some cs.size)
    (h : wpList Try.prog ops Q rest (a.put o.dst (.agg cs)) w) : wpList Try.prog ops Q (o :: rest) a w := wpList_load_row_g hgd 32 x ho g hx 32 cs (0, 0) _ hg Try.underlying32 rfl hi h
end

section
variable {ops : Array Oper} {rest : List Oper} {o : Oper} {a : Act} {w : World} {Q : Exit → Act → World → Prop}
theorem wpl_eqlW (x y : Operand) (ho : o.op = .binOp .eql 32 x y 32) (hgd : Region.wanted o (yielded ops a.tmps) = true) (F G : Array Value) (hx : a.eval x = .agg F) (hy : a.eval y = .agg G) (hne : ∀ w, (binOp .eql 32 (.agg F) (.agg G)).run Try.prog w = .ok (.bool true) w)
    (h : wpList Try.prog ops Q rest (a.put o.dst (.bool true)) w) : wpList Try.prog ops Q (o :: rest) a w :=
  wpl_val hgd (.bool true) (by
    have hg : (eqGuard .eql 32 x y (.agg F) (.agg G)).run Try.prog w = .ok () w := by kernel_rfl
    unfold execOp
    simp only [ho, hx, hy, Sem.run_bind, hg, hne, Result.andThen_ok, Sem.run_pure]) h
theorem wpl_assign (x : Operand) (ho : o.op = .assign x) (hgd : Region.wanted o (yielded ops a.tmps) = true) (v : Value) (hx : a.eval x = v) (h : wpList Try.prog ops Q rest (a.put o.dst v) w) : wpList Try.prog ops Q (o :: rest) a w :=
  wpl_val hgd v (by unfold execOp; simp only [ho, hx, Sem.run_pure]) h
end
theorem turn_world {W v u : World} {bd bi : Nat} {F D : Array Value} (hbi : bd < bi) (hG : v.heap[bi]? = some (.cells F 32)) (hD : v.heap[bd]? = some (.cells D 32)) (hB : Below W.heap.size W v) (hlo : W.heap.size ≤ bi)
    (b : Below v.heap.size v u) (E : Array Value) : (u.alloc (.cells E 32)).heap[bi]? = some (.cells F 32) ∧
    ((u.alloc (.cells E 32)).setRow bi E).heap[bi]? = some (.cells E 32) ∧
    ((u.alloc (.cells E 32)).setRow bi E).heap[bd]? = some (.cells D 32) ∧ Below W.heap.size W ((u.alloc (.cells E 32)).setRow bi E) := by
  have l1 := (Array.getElem?_eq_some_iff.1 hG).1
  have g1 : u.heap[bi]? = some (.cells F 32) := (b.block bi l1).trans hG
  have d1 : u.heap[bd]? = some (.cells D 32) := (b.block bd (by omega)).trans hD
  have l2 := (Array.getElem?_eq_some_iff.1 g1).1
  have g2 : (u.alloc (.cells E 32)).heap[bi]? = some (.cells F 32) := by rw [heap_alloc_old _ _ l2]; exact g1
  have d2 : (u.alloc (.cells E 32)).heap[bd]? = some (.cells D 32) := by rw [heap_alloc_old _ _ (by omega)]; exact d1
  have hb1 := hB.trans (b.mono hB.size)
  refine ⟨g2, setRow_heap _ _ _ _ _ _ g2, ?_, below_setRow (hb1.alloc hb1.size _) hlo _⟩
  rw [heap_setRow_other _ _ _ _ (by omega)]
  exact d2

set_option maxRecDepth 100000 in
set_option maxHeartbeats 40000000 in
theorem gratings_walk (HSl : ImplSlitMask) (HDi : ImplDiscMask) (HGr : ImplGratingMask) (HCh : ImplCheckMask) (HZo : ImplZoneMask) (HBl : ImplBlazedWave) (HLe : ImplLensWave)
    (ad : Option Addr) (len cap : Nat) (w : World) (hc : Code ad len w) (hbig : ¬ 4096 < len)
 :
    Calls Try.prog 7 #[.slice ad len cap] w fun e w' => e = .returned (.bool true) ∧ Below w.heap.size w w' := by
  have HC := Lib.hid hc
  have hz37 := (zero_of_info info37').1
  have HS37 := Lib.hid (zero_of_info info37').2
  have HZ37 : Hid ((pic 0 zc).size = 65) := Lib.hid (pic_size 0 zc zc_size)
  have hne := pic_ne
  generalize pic 0 zc = Z at *
  have hd : decide (4096 < len) = false := by simp [hbig]
  clear hc
  go_enter Try.func7, Try.ntmps7
  go_wp2_with fail
  refine (big_any _ _ _ _).mono ?_
  rw [hd]
  rintro e w0 ⟨rfl, hw0⟩
  rw [hw0]
  clear hw0 w0 hd hbig
  have B0 : Hid (Below w.heap.size w w) := Lib.hid (Below.refl _ _)
  go_wp2_with fail
  refine (drawSlit_any ad len cap _ (HC.out.below B0.out)).mono ?_
  rintro e wA1 ⟨n1, x1, d1, rfl, bA1⟩
  obtain ⟨s1, F1, c1, hF1, hI1, hS1, hcc1⟩ := bothSlitMask HSl n1 x1 d1
  have HI1 := Lib.hid hI1
  have HS1 := Lib.hid hS1
  have HF1 := Lib.hid hF1
  clear hI1 hS1 hF1
  have HFI1 : Hid ((Try.prog.info? 32).map (·.size) = some F1.size) := Lib.hid (by rw [HF1.out.1]; exact HS37.out)
  have HZF1 : Hid (Z.size = F1.size) := Lib.hid (by rw [HF1.out.1]; exact HZ37.out)
  have HF11 := Lib.hid (finW_one HF1.out)
  have hne1 : ∀ w, (binOp .neq 32 (.agg F1) (.agg F1)).run Try.prog w = .ok (.bool false) w := fun w => neq_self s1 F1 HF1.out w
  go_wp2_with fail
  refine (HI1.out _).mono ?_
  rintro e wB1 ⟨rfl, bB1⟩
  go_wp2_with (refine wpList_store_row rfl 32 (.tmp 6) (.tmp 81) rfl wB1.heap.size F1 rfl rfl 32 Z (h1_0 _ _) HFI1.out HZF1.out HF11.out ?_; rw [World.setRow_alloc_new]; go_frame)
  refine (HS1.out _).mono ?_
  rintro e wC1 ⟨rfl, bC1⟩
  have g1 := fun j C (h : w.heap[j]? = some (.cells C 32)) => keep4 bA1 bB1 (.cells F1 32) bC1 (.cells F1 32) j (.cells C 32) h
  have GI1 : Hid ((wC1.alloc (.cells F1 32)).heap[wB1.heap.size]? = some (.cells F1 32)) := Lib.hid (by
    rw [heap_alloc_old _ _ (by have := bC1.size; rw [size_al] at this; omega), bC1.block _ (by rw [size_al]; omega)]; exact h1_0 _ _)
  have GS1 : Hid ((wC1.alloc (.cells F1 32)).heap[wC1.heap.size]? = some (.cells F1 32)) := Lib.hid (h1_0 _ _)
  have BN1 : Hid (Below w.heap.size w (wC1.alloc (.cells F1 32))) := Lib.hid (below4 B0.out bA1 bB1 (.cells F1 32) bC1 (.cells F1 32))
  clear g1 bA1 bB1 bC1 HI1 HS1 B0
  go_upto_region 6 with (refine wpList_store_row rfl 32 (.tmp 8) (.tmp 88) rfl wC1.heap.size F1 rfl rfl 32 Z (h1_0 _ _) HFI1.out HZF1.out HF11.out ?_; rw [World.setRow_alloc_new]; go_frame)
  generalize wB1.heap.size = bi1 at *
  generalize wC1.heap.size = bs1 at *
  generalize wC1.alloc (.cells F1 32) = v1 at *
  go_upto_if 99 with (first | (refine wpList_load_row_g rfl 32 (.tmp 6) rfl bi1 rfl 32 F1 (0, 0) _ GI1.out Try.underlying32 rfl HFI1.out ?_; go_frame) | (refine wpList_load_row_g rfl 32 (.tmp 8) rfl bs1 rfl 32 F1 (0, 0) _ GS1.out Try.underlying32 rfl HFI1.out ?_; go_frame))
  clear GS1 HF11 HZF1 hne1
  go_cut [] (fun wx => Hid (Below w.heap.size w wx))
  case first => as_aux_lemma =>
    rcases hcc1 with ⟨rfl, hok, hF⟩ | rfl
    · have hok' := hok
      unfold okSlitMask at hok'
      rw [Bool.and_eq_true, Bool.and_eq_true] at hok'
      obtain ⟨⟨ok1, ok2⟩, ok3⟩ := hok'
      have hn18 : 1 ≤ n1 ∧ n1 ≤ 8 := by rcases side_yes n1 ok1 with e | e | e | e <;> omega
      have hd18 : 0 ≤ d1 ∧ d1 ≤ 8 := by simp [inside] at ok2 ok3; omega
      have HO : Hid (∀ w, Calls Try.prog 39 #[.agg F1] w fun e w' => ∃ b cap, e = .returned (.tuple #[.slice (some ⟨b, 0, none⟩) n1.toNat cap, .int .i64 0]) ∧ Below w.heap.size w w' ∧ ∀ i, i < n1.toNat → w'.cell? ⟨b, 0 + i, none⟩ = some (.int .i64 d1)) := Lib.hid fun w => by rw [hF]; exact implOpenSlit n1 x1 d1 hok w
      clear hok ok2 ok3 hF
      go_wp2_with (refine wpList_load_row rfl 32 (.tmp 6) rfl bi1 rfl 32 F1 (0, 0) _ GI1.out Try.underlying32 rfl HFI1.out ?_; go_frame)
      refine (HO.out _).mono ?_
      rintro e w5 ⟨b5, cap5, rfl, bl5, hcells⟩
      have B5 : Hid (Below w.heap.size w w5) := Lib.hid (BN1.out.trans (bl5.mono BN1.out.size))
      have HSUM := Lib.hid (sum_any b5 0 n1.toNat cap5 (fun _ => d1) (by omega) (fun _ _ => by omega) w5 hcells)
      have ht : tot (fun _ => d1) n1.toNat = n1 * d1 := by rw [tot_const, show ((n1.toNat : Nat) : Int) = n1 by omega]
      rw [ht] at HSUM
      obtain ⟨N, hN⟩ : ∃ N : Nat, n1 = N := ⟨n1.toNat, by omega⟩
      have hnd := mul_small d1 n1 8 9 (by omega) (by omega)
      have hwn : IntKind.i64.wrap (n1 * d1) = n1 * d1 := IntWalk.i64_in _ (by rw [Int.mul_comm]; omega)
      have hnq : (n1 * d1 != n1 * d1) = false := by simp
      clear bl5 hcells ht hN HO ok1
      go_wp2_with fail
      refine HSUM.out.mono ?_
      rintro e w6 ⟨rfl, hw6⟩
      rw [hw6]
      clear hw6 w6
      go_wp2_with fail
      go_meet
      exact B5
    · go_wp2_with fail
      go_meet
      exact BN1
  case rest => as_aux_lemma =>
  have C1 : Hid (Below w.heap.size w wc) := hcut
  clear hcut hcc1 GI1 BN1 HFI1 HF1
  go_wp2_with fail
  refine (drawDisc_any ad len cap _ (HC.out.below C1.out)).mono ?_
  rintro e wA2 ⟨n2, v2', u2, r2, rfl, bA2⟩
  obtain ⟨s2, F2, c2, hF2, hI2, hS2, hcc2⟩ := bothDiscMask HDi n2 v2' u2 r2
  have HI2 := Lib.hid hI2
  have HS2 := Lib.hid hS2
  have HF2 := Lib.hid hF2
  clear hI2 hS2 hF2
  have HFI2 : Hid ((Try.prog.info? 32).map (·.size) = some F2.size) := Lib.hid (by rw [HF2.out.1]; exact HS37.out)
  have HZF2 : Hid (Z.size = F2.size) := Lib.hid (by rw [HF2.out.1]; exact HZ37.out)
  have HF12 := Lib.hid (finW_one HF2.out)
  have hne2 : ∀ w, (binOp .neq 32 (.agg F2) (.agg F2)).run Try.prog w = .ok (.bool false) w := fun w => neq_self s2 F2 HF2.out w
  go_wp2_with fail
  refine (HI2.out _).mono ?_
  rintro e wB2 ⟨rfl, bB2⟩
  go_wp2_with (refine wpList_store_row rfl 32 (.tmp 16) (.tmp 128) rfl wB2.heap.size F2 rfl rfl 32 Z (h1_0 _ _) HFI2.out HZF2.out HF12.out ?_; rw [World.setRow_alloc_new]; go_frame)
  refine (HS2.out _).mono ?_
  rintro e wC2 ⟨rfl, bC2⟩
  have g2 := fun j C (h : wc.heap[j]? = some (.cells C 32)) => keep4 bA2 bB2 (.cells F2 32) bC2 (.cells F2 32) j (.cells C 32) h
  have GI2 : Hid ((wC2.alloc (.cells F2 32)).heap[wB2.heap.size]? = some (.cells F2 32)) := Lib.hid (by
    rw [heap_alloc_old _ _ (by have := bC2.size; rw [size_al] at this; omega), bC2.block _ (by rw [size_al]; omega)]; exact h1_0 _ _)
  have GS2 : Hid ((wC2.alloc (.cells F2 32)).heap[wC2.heap.size]? = some (.cells F2 32)) := Lib.hid (h1_0 _ _)
  have BN2 : Hid (Below w.heap.size w (wC2.alloc (.cells F2 32))) := Lib.hid (below4 C1.out bA2 bB2 (.cells F2 32) bC2 (.cells F2 32))
  clear g2 bA2 bB2 bC2 HI2 HS2 C1
  go_upto_region 15 with (refine wpList_store_row rfl 32 (.tmp 18) (.tmp 136) rfl wC2.heap.size F2 rfl rfl 32 Z (h1_0 _ _) HFI2.out HZF2.out HF12.out ?_; rw [World.setRow_alloc_new]; go_frame)
  generalize wB2.heap.size = bi2 at *
  generalize wC2.heap.size = bs2 at *
  generalize wC2.alloc (.cells F2 32) = v2 at *
  go_upto_region 17 with (first | (refine wpList_load_row_g rfl 32 (.tmp 16) rfl bi2 rfl 32 F2 (0, 0) _ GI2.out Try.underlying32 rfl HFI2.out ?_; go_frame) | (refine wpList_load_row_g rfl 32 (.tmp 18) rfl bs2 rfl 32 F2 (0, 0) _ GS2.out Try.underlying32 rfl HFI2.out ?_; go_frame))
  clear GS2
  go_cut [151] (fun b wx => b = .bool (decide (c2 = 0) && decide (r2 < 1000)) ∧ wx = v2)
  case first => as_aux_lemma =>
    rcases hcc2 with ⟨rfl, _, _⟩ | rfl
    · by_cases hr : r2 < 1000
      · have hrd : decide (r2 < 1000) = true := by simp [hr]
        go_wp2_with fail
        all_goals (go_meet; exact ⟨by rw [hrd]; rfl, rfl⟩)
      · have hrd : decide (r2 < 1000) = false := by simp [hr]
        go_wp2_with fail
        all_goals (go_meet; exact ⟨by rw [hrd]; rfl, rfl⟩)
    · go_wp2_with fail
      all_goals (go_meet; exact ⟨rfl, rfl⟩)
  case rest => as_aux_lemma =>
  obtain ⟨rfl, rfl⟩ := hcut
  have HQ2 : Hid ((decide (c2 = 0) && decide (r2 < 1000)) = true → okDiscMask n2 v2' u2 r2 = true ∧ F2 = pic n2 (gf (cellDiscMask n2.toNat v2' u2 r2) (n2.toNat * n2.toNat)) ∧ r2 < 1000) := Lib.hid fun h => by
    rw [Bool.and_eq_true, decide_eq_true_eq, decide_eq_true_eq] at h
    rcases hcc2 with ⟨_, h1, h2⟩ | h1
    · exact ⟨h1, h2, h.2⟩
    · omega
  clear hcc2
  generalize (decide (c2 = 0) && decide (r2 < 1000)) = q at *
  go_upto_if 151 with fail
  go_cut [] (fun wx => Hid (Below w.heap.size w wx))
  case first => as_aux_lemma =>
    cases q
    · go_wp2_with fail
      go_meet
      exact BN2
    · obtain ⟨hok, hF, hr⟩ := HQ2.out rfl
      have hr0 : 0 ≤ r2 := by
        unfold okDiscMask at hok
        rw [Bool.and_eq_true] at hok
        have h := hok.2
        simp [inside] at h
        omega
      have hok' : okDiscMask n2 v2' u2 (r2 + 1) = true := by
        unfold okDiscMask at hok ⊢
        rw [Bool.and_eq_true] at hok ⊢
        refine ⟨hok.1, ?_⟩
        simp [inside]
        omega
      have hwr : IntKind.i64.wrap (r2 + 1) = r2 + 1 := IntWalk.i64_in _ (by omega)
      have hD := HDi n2 v2' u2 (r2 + 1)
      rw [ansDiscMask_yes _ _ _ _ hok'] at hD
      have HD := Lib.hid hD
      have HIN0 := implInterDisc n2 v2' u2 r2 hok
      have HC3 : Hid (FinW n2 (pic n2 (gf (cellDiscMask n2.toNat v2' u2 (r2 + 1)) (n2.toNat * n2.toNat)))) := Lib.hid (gf_fin _ _ (cellDiscMask_fin _ _ _ _) _)
      clear hD
      dsimp only at HD
      obtain ⟨F3, hF3⟩ : ∃ F3, F3 = pic n2 (gf (cellDiscMask n2.toNat v2' u2 (r2 + 1)) (n2.toNat * n2.toNat)) := ⟨_, rfl⟩
      rw [← hF, ← hF3] at HIN0
      rw [← hF3] at HD HC3
      have HIN := Lib.hid HIN0
      clear HIN0 hF3 hF hok hok' hr HQ2
      have HFI3 : Hid ((Try.prog.info? 32).map (·.size) = some F3.size) := Lib.hid (by rw [HC3.out.1]; exact HS37.out)
      have HZF3 : Hid (Z.size = F3.size) := Lib.hid (by rw [HC3.out.1]; exact HZ37.out)
      have HF13 := Lib.hid (finW_one HC3.out)
      go_wp2_with fail
      refine (HD.out _).mono ?_
      rintro e w5 ⟨rfl, b5⟩
      have l2 := (Array.getElem?_eq_some_iff.1 GI2.out).1
      have Ga : Hid ((w5.alloc (.cells F3 32)).heap[bi2]? = some (.cells F2 32)) := Lib.hid (by rw [heap_alloc_old _ _ (Nat.lt_of_lt_of_le l2 b5.size), b5.block _ l2]; exact GI2.out)
      have Gb : Hid ((w5.alloc (.cells F3 32)).heap[w5.heap.size]? = some (.cells F3 32)) := Lib.hid (h1_0 _ _)
      have B5 : Hid (Below w.heap.size w (w5.alloc (.cells F3 32))) := Lib.hid (by
        have h := BN2.out.trans (b5.mono BN2.out.size)
        exact h.alloc h.size _)
      clear b5 l2
      go_wp2_with (first | (refine wpList_store_row rfl 32 (.tmp 20) (.tmp 159) rfl w5.heap.size F3 rfl rfl 32 Z (h1_0 _ _) HFI3.out HZF3.out HF13.out ?_; rw [World.setRow_alloc_new]; go_frame) | (refine wpList_load_row rfl 32 (.tmp 16) rfl bi2 rfl 32 F2 (0, 0) _ Ga.out Try.underlying32 rfl HFI2.out ?_; go_frame) | (refine wpList_load_row rfl 32 (.tmp 20) rfl w5.heap.size rfl 32 F3 (0, 0) _ Gb.out Try.underlying32 rfl HFI3.out ?_; go_frame))
      refine (HIN.out _).mono ?_
      rintro e w6 ⟨rfl, b6⟩
      have l2 := (Array.getElem?_eq_some_iff.1 Ga.out).1
      have Gc : Hid ((w6.alloc (.cells F2 32)).heap[bi2]? = some (.cells F2 32)) := Lib.hid (by rw [heap_alloc_old _ _ (Nat.lt_of_lt_of_le l2 b6.size), b6.block _ l2]; exact Ga.out)
      have Gd : Hid ((w6.alloc (.cells F2 32)).heap[w6.heap.size]? = some (.cells F2 32)) := Lib.hid (h1_0 _ _)
      have B6 : Hid (Below w.heap.size w (w6.alloc (.cells F2 32))) := Lib.hid (by
        have h := B5.out.trans (b6.mono B5.out.size)
        exact h.alloc h.size _)
      clear b6 l2 Ga Gb B5
      go_wp2_with (first | (refine wpList_store_row rfl 32 (.tmp 22) (.tmp 165) rfl w6.heap.size F2 rfl rfl 32 Z (h1_0 _ _) HFI2.out HZF2.out HF12.out ?_; rw [World.setRow_alloc_new]; go_frame) | (refine wpList_load_row_g rfl 32 (.tmp 16) rfl bi2 rfl 32 F2 (0, 0) _ Gc.out Try.underlying32 rfl HFI2.out ?_; go_frame) | (refine wpList_load_row_g rfl 32 (.tmp 22) rfl w6.heap.size rfl 32 F2 (0, 0) _ Gd.out Try.underlying32 rfl HFI2.out ?_; go_frame))
      go_meet
      exact B6
  case rest => as_aux_lemma =>
  have C2 : Hid (Below w.heap.size w wc) := hcut
  clear hcut HQ2 GI2 BN2 HFI2 HF2 HF12 HZF2 hne2
  go_wp2_with fail
  refine (drawGrating_any ad len cap _ (HC.out.below C2.out)).mono ?_
  rintro e wA3 ⟨n3, p3, q3, rfl, bA3⟩
  obtain ⟨s3, F3, c3, hF3, hI3, hS3⟩ := bothGratingMask HGr n3 p3 q3
  have HI3 := Lib.hid hI3
  have HS3 := Lib.hid hS3
  have HF3 := Lib.hid hF3
  clear hI3 hS3 hF3
  have HFI3 : Hid ((Try.prog.info? 32).map (·.size) = some F3.size) := Lib.hid (by rw [HF3.out.1]; exact HS37.out)
  have HZF3 : Hid (Z.size = F3.size) := Lib.hid (by rw [HF3.out.1]; exact HZ37.out)
  have HF13 := Lib.hid (finW_one HF3.out)
  have hne3 : ∀ w, (binOp .neq 32 (.agg F3) (.agg F3)).run Try.prog w = .ok (.bool false) w := fun w => neq_self s3 F3 HF3.out w
  go_wp2_with fail
  refine (HI3.out _).mono ?_
  rintro e wB3 ⟨rfl, bB3⟩
  go_wp2_with (refine wpList_store_row rfl 32 (.tmp _) (.tmp _) rfl wB3.heap.size F3 rfl rfl 32 Z (h1_0 _ _) HFI3.out HZF3.out HF13.out ?_; rw [World.setRow_alloc_new]; go_frame)
  refine (HS3.out _).mono ?_
  rintro e wC3 ⟨rfl, bC3⟩
  have g3 := fun j C (h : wc.heap[j]? = some (.cells C 32)) => keep4 bA3 bB3 (.cells F3 32) bC3 (.cells F3 32) j (.cells C 32) h
  have GI3 : Hid ((wC3.alloc (.cells F3 32)).heap[wB3.heap.size]? = some (.cells F3 32)) := Lib.hid (by
    rw [heap_alloc_old _ _ (by have := bC3.size; rw [size_al] at this; omega), bC3.block _ (by rw [size_al]; omega)]; exact h1_0 _ _)
  have GS3 : Hid ((wC3.alloc (.cells F3 32)).heap[wC3.heap.size]? = some (.cells F3 32)) := Lib.hid (h1_0 _ _)
  have BN3 : Hid (Below w.heap.size w (wC3.alloc (.cells F3 32))) := Lib.hid (below4 C2.out bA3 bB3 (.cells F3 32) bC3 (.cells F3 32))
  clear g3 bA3 bB3 bC3 HI3 HS3 C2
  go_wp2_with (refine wpList_store_row rfl 32 (.tmp _) (.tmp _) rfl wC3.heap.size F3 rfl rfl 32 Z (h1_0 _ _) HFI3.out HZF3.out HF13.out ?_; rw [World.setRow_alloc_new]; go_frame)
  generalize wB3.heap.size = bi3 at *
  generalize wC3.heap.size = bs3 at *
  generalize wC3.alloc (.cells F3 32) = v3 at *
  refine (drawCheck_any ad len cap _ (HC.out.below BN3.out)).mono ?_
  rintro e wA4 ⟨n4, p4, rfl, bA4⟩
  obtain ⟨s4, F4, c4, hF4, hI4, hS4⟩ := bothCheckMask HCh n4 p4
  have HI4 := Lib.hid hI4
  have HS4 := Lib.hid hS4
  have HF4 := Lib.hid hF4
  clear hI4 hS4 hF4
  have HFI4 : Hid ((Try.prog.info? 32).map (·.size) = some F4.size) := Lib.hid (by rw [HF4.out.1]; exact HS37.out)
  have HZF4 : Hid (Z.size = F4.size) := Lib.hid (by rw [HF4.out.1]; exact HZ37.out)
  have HF14 := Lib.hid (finW_one HF4.out)
  have hne4 : ∀ w, (binOp .neq 32 (.agg F4) (.agg F4)).run Try.prog w = .ok (.bool false) w := fun w => neq_self s4 F4 HF4.out w
  go_wp2_with fail
  refine (HI4.out _).mono ?_
  rintro e wB4 ⟨rfl, bB4⟩
  go_wp2_with (refine wpList_store_row rfl 32 (.tmp _) (.tmp _) rfl wB4.heap.size F4 rfl rfl 32 Z (h1_0 _ _) HFI4.out HZF4.out HF14.out ?_; rw [World.setRow_alloc_new]; go_frame)
  refine (HS4.out _).mono ?_
  rintro e wC4 ⟨rfl, bC4⟩
  have g4 := fun j C (h : v3.heap[j]? = some (.cells C 32)) => keep4 bA4 bB4 (.cells F4 32) bC4 (.cells F4 32) j (.cells C 32) h
  have GI4 : Hid ((wC4.alloc (.cells F4 32)).heap[wB4.heap.size]? = some (.cells F4 32)) := Lib.hid (by
    rw [heap_alloc_old _ _ (by have := bC4.size; rw [size_al] at this; omega), bC4.block _ (by rw [size_al]; omega)]; exact h1_0 _ _)
  have GS4 : Hid ((wC4.alloc (.cells F4 32)).heap[wC4.heap.size]? = some (.cells F4 32)) := Lib.hid (h1_0 _ _)
  have BN4 : Hid (Below w.heap.size w (wC4.alloc (.cells F4 32))) := Lib.hid (below4 BN3.out bA4 bB4 (.cells F4 32) bC4 (.cells F4 32))
  have GI3n4 := Lib.hid (g4 bi3 F3 GI3.out)
  have GS3n4 := Lib.hid (g4 bs3 F3 GS3.out)
  clear g4 bA4 bB4 bC4 HI4 HS4 GI3 GS3 BN3
  go_wp2_with (refine wpList_store_row rfl 32 (.tmp _) (.tmp _) rfl wC4.heap.size F4 rfl rfl 32 Z (h1_0 _ _) HFI4.out HZF4.out HF14.out ?_; rw [World.setRow_alloc_new]; go_frame)
  generalize wB4.heap.size = bi4 at *
  generalize wC4.heap.size = bs4 at *
  generalize wC4.alloc (.cells F4 32) = v4 at *
  refine (drawZone_any ad len cap _ (HC.out.below BN4.out)).mono ?_
  rintro e wA5 ⟨n5, vv5, u5, q5, rfl, bA5⟩
  obtain ⟨s5, F5, c5, hF5, hI5, hS5⟩ := bothZoneMask HZo n5 vv5 u5 q5
  have HI5 := Lib.hid hI5
  have HS5 := Lib.hid hS5
  have HF5 := Lib.hid hF5
  clear hI5 hS5 hF5
  have HFI5 : Hid ((Try.prog.info? 32).map (·.size) = some F5.size) := Lib.hid (by rw [HF5.out.1]; exact HS37.out)
  have HZF5 : Hid (Z.size = F5.size) := Lib.hid (by rw [HF5.out.1]; exact HZ37.out)
  have HF15 := Lib.hid (finW_one HF5.out)
  have hne5 : ∀ w, (binOp .neq 32 (.agg F5) (.agg F5)).run Try.prog w = .ok (.bool false) w := fun w => neq_self s5 F5 HF5.out w
  go_wp2_with fail
  refine (HI5.out _).mono ?_
  rintro e wB5 ⟨rfl, bB5⟩
  go_wp2_with (refine wpList_store_row rfl 32 (.tmp _) (.tmp _) rfl wB5.heap.size F5 rfl rfl 32 Z (h1_0 _ _) HFI5.out HZF5.out HF15.out ?_; rw [World.setRow_alloc_new]; go_frame)
  refine (HS5.out _).mono ?_
  rintro e wC5 ⟨rfl, bC5⟩
  have g5 := fun j C (h : v4.heap[j]? = some (.cells C 32)) => keep4 bA5 bB5 (.cells F5 32) bC5 (.cells F5 32) j (.cells C 32) h
  have GI5 : Hid ((wC5.alloc (.cells F5 32)).heap[wB5.heap.size]? = some (.cells F5 32)) := Lib.hid (by
    rw [heap_alloc_old _ _ (by have := bC5.size; rw [size_al] at this; omega), bC5.block _ (by rw [size_al]; omega)]; exact h1_0 _ _)
  have GS5 : Hid ((wC5.alloc (.cells F5 32)).heap[wC5.heap.size]? = some (.cells F5 32)) := Lib.hid (h1_0 _ _)
  have BN5 : Hid (Below w.heap.size w (wC5.alloc (.cells F5 32))) := Lib.hid (below4 BN4.out bA5 bB5 (.cells F5 32) bC5 (.cells F5 32))
  have GI3n4n5 := Lib.hid (g5 bi3 F3 GI3n4.out)
  have GS3n4n5 := Lib.hid (g5 bs3 F3 GS3n4.out)
  have GI4n5 := Lib.hid (g5 bi4 F4 GI4.out)
  have GS4n5 := Lib.hid (g5 bs4 F4 GS4.out)
  clear g5 bA5 bB5 bC5 HI5 HS5 GI3n4 GS3n4 GI4 GS4 BN4
  go_wp2_with (refine wpList_store_row rfl 32 (.tmp _) (.tmp _) rfl wC5.heap.size F5 rfl rfl 32 Z (h1_0 _ _) HFI5.out HZF5.out HF15.out ?_; rw [World.setRow_alloc_new]; go_frame)
  generalize wB5.heap.size = bi5 at *
  generalize wC5.heap.size = bs5 at *
  generalize wC5.alloc (.cells F5 32) = v5 at *
  refine (drawBlazed_any ad len cap _ (HC.out.below BN5.out)).mono ?_
  rintro e wA6 ⟨n6, p6, m6, rfl, bA6⟩
  obtain ⟨s6, F6, c6, hF6, hI6, hS6⟩ := bothBlazedWave HBl n6 p6 m6
  have HI6 := Lib.hid hI6
  have HS6 := Lib.hid hS6
  have HF6 := Lib.hid hF6
  clear hI6 hS6 hF6
  have HFI6 : Hid ((Try.prog.info? 32).map (·.size) = some F6.size) := Lib.hid (by rw [HF6.out.1]; exact HS37.out)
  have HZF6 : Hid (Z.size = F6.size) := Lib.hid (by rw [HF6.out.1]; exact HZ37.out)
  have HF16 := Lib.hid (finW_one HF6.out)
  have hne6 : ∀ w, (binOp .neq 32 (.agg F6) (.agg F6)).run Try.prog w = .ok (.bool false) w := fun w => neq_self s6 F6 HF6.out w
  go_wp2_with fail
  refine (HI6.out _).mono ?_
  rintro e wB6 ⟨rfl, bB6⟩
  go_wp2_with (refine wpList_store_row rfl 32 (.tmp _) (.tmp _) rfl wB6.heap.size F6 rfl rfl 32 Z (h1_0 _ _) HFI6.out HZF6.out HF16.out ?_; rw [World.setRow_alloc_new]; go_frame)
  refine (HS6.out _).mono ?_
  rintro e wC6 ⟨rfl, bC6⟩
  have g6 := fun j C (h : v5.heap[j]? = some (.cells C 32)) => keep4 bA6 bB6 (.cells F6 32) bC6 (.cells F6 32) j (.cells C 32) h
  have GI6 : Hid ((wC6.alloc (.cells F6 32)).heap[wB6.heap.size]? = some (.cells F6 32)) := Lib.hid (by
    rw [heap_alloc_old _ _ (by have := bC6.size; rw [size_al] at this; omega), bC6.block _ (by rw [size_al]; omega)]; exact h1_0 _ _)
  have GS6 : Hid ((wC6.alloc (.cells F6 32)).heap[wC6.heap.size]? = some (.cells F6 32)) := Lib.hid (h1_0 _ _)
  have BN6 : Hid (Below w.heap.size w (wC6.alloc (.cells F6 32))) := Lib.hid (below4 BN5.out bA6 bB6 (.cells F6 32) bC6 (.cells F6 32))
  have GI3n4n5n6 := Lib.hid (g6 bi3 F3 GI3n4n5.out)
  have GS3n4n5n6 := Lib.hid (g6 bs3 F3 GS3n4n5.out)
  have GI4n5n6 := Lib.hid (g6 bi4 F4 GI4n5.out)
  have GS4n5n6 := Lib.hid (g6 bs4 F4 GS4n5.out)
  have GI5n6 := Lib.hid (g6 bi5 F5 GI5.out)
  have GS5n6 := Lib.hid (g6 bs5 F5 GS5.out)
  clear g6 bA6 bB6 bC6 HI6 HS6 GI3n4n5 GS3n4n5 GI4n5 GS4n5 GI5 GS5 BN5
  go_wp2_with (refine wpList_store_row rfl 32 (.tmp _) (.tmp _) rfl wC6.heap.size F6 rfl rfl 32 Z (h1_0 _ _) HFI6.out HZF6.out HF16.out ?_; rw [World.setRow_alloc_new]; go_frame)
  generalize wB6.heap.size = bi6 at *
  generalize wC6.heap.size = bs6 at *
  generalize wC6.alloc (.cells F6 32) = v6 at *
  refine (drawLens_any ad len cap _ (HC.out.below BN6.out)).mono ?_
  rintro e wA7 ⟨n7, vv7, u7, k7, rfl, bA7⟩
  obtain ⟨s7, F7, c7, hF7, hI7, hS7⟩ := bothLensWave HLe n7 vv7 u7 k7
  have HI7 := Lib.hid hI7
  have HS7 := Lib.hid hS7
  have HF7 := Lib.hid hF7
  clear hI7 hS7 hF7
  have HFI7 : Hid ((Try.prog.info? 32).map (·.size) = some F7.size) := Lib.hid (by rw [HF7.out.1]; exact HS37.out)
  have HZF7 : Hid (Z.size = F7.size) := Lib.hid (by rw [HF7.out.1]; exact HZ37.out)
  have HF17 := Lib.hid (finW_one HF7.out)
  have hne7 : ∀ w, (binOp .neq 32 (.agg F7) (.agg F7)).run Try.prog w = .ok (.bool false) w := fun w => neq_self s7 F7 HF7.out w
  go_wp2_with fail
  refine (HI7.out _).mono ?_
  rintro e wB7 ⟨rfl, bB7⟩
  go_wp2_with (refine wpList_store_row rfl 32 (.tmp _) (.tmp _) rfl wB7.heap.size F7 rfl rfl 32 Z (h1_0 _ _) HFI7.out HZF7.out HF17.out ?_; rw [World.setRow_alloc_new]; go_frame)
  refine (HS7.out _).mono ?_
  rintro e wC7 ⟨rfl, bC7⟩
  have g7 := fun j C (h : v6.heap[j]? = some (.cells C 32)) => keep4 bA7 bB7 (.cells F7 32) bC7 (.cells F7 32) j (.cells C 32) h
  have GI7 : Hid ((wC7.alloc (.cells F7 32)).heap[wB7.heap.size]? = some (.cells F7 32)) := Lib.hid (by
    rw [heap_alloc_old _ _ (by have := bC7.size; rw [size_al] at this; omega), bC7.block _ (by rw [size_al]; omega)]; exact h1_0 _ _)
  have GS7 : Hid ((wC7.alloc (.cells F7 32)).heap[wC7.heap.size]? = some (.cells F7 32)) := Lib.hid (h1_0 _ _)
  have BN7 : Hid (Below w.heap.size w (wC7.alloc (.cells F7 32))) := Lib.hid (below4 BN6.out bA7 bB7 (.cells F7 32) bC7 (.cells F7 32))
  have GI3n4n5n6n7 := Lib.hid (g7 bi3 F3 GI3n4n5n6.out)
  have GS3n4n5n6n7 := Lib.hid (g7 bs3 F3 GS3n4n5n6.out)
  have GI4n5n6n7 := Lib.hid (g7 bi4 F4 GI4n5n6.out)
  have GS4n5n6n7 := Lib.hid (g7 bs4 F4 GS4n5n6.out)
  have GI5n6n7 := Lib.hid (g7 bi5 F5 GI5n6.out)
  have GS5n6n7 := Lib.hid (g7 bs5 F5 GS5n6.out)
  have GI6n7 := Lib.hid (g7 bi6 F6 GI6.out)
  have GS6n7 := Lib.hid (g7 bs6 F6 GS6.out)
  clear g7 bA7 bB7 bC7 HI7 HS7 GI3n4n5n6 GS3n4n5n6 GI4n5n6 GS4n5n6 GI5n6 GS5n6 GI6 GS6 BN6
  go_upto_region 37 with (refine wpList_store_row rfl 32 (.tmp _) (.tmp _) rfl wC7.heap.size F7 rfl rfl 32 Z (h1_0 _ _) HFI7.out HZF7.out HF17.out ?_; rw [World.setRow_alloc_new]; go_frame)
  generalize wB7.heap.size = bi7 at *
  generalize wC7.heap.size = bs7 at *
  generalize wC7.alloc (.cells F7 32) = v7 at *
  apply wp_region_lit
  refine wpl_move (.tmp 28) rfl (wanted_no rfl) (.int .i64 c3) rfl ?_
  go_frame
  refine wpl_move (.tmp 30) rfl (wanted_no rfl) (.int .i64 c3) rfl ?_
  go_frame
  refine wpl_neqInt _ _ (.tmp 281) (.tmp 282) rfl (wanted_no rfl) .i64 c3 rfl rfl ?_
  go_frame
  refine wpl_move (.tmp 283) rfl (wanted_no rfl) (.bool false) rfl ?_
  go_frame
  refine wpl_load (.tmp 27) rfl (wanted_of rfl rfl rfl) bi3 rfl F3 GI3n4n5n6n7.out HFI3.out ?_
  go_frame
  refine wpl_load (.tmp 29) rfl (wanted_of rfl rfl rfl) bs3 rfl F3 GS3n4n5n6n7.out HFI3.out ?_
  go_frame
  refine wpl_neqW (.tmp 285) (.tmp 286) rfl (wanted_of rfl rfl rfl) F3 F3 rfl rfl hne3 ?_
  go_frame
  refine wpl_pick (.tmp 284) (.const (.bool true)) (.tmp 287) rfl (wanted_no rfl) rfl (.bool false) rfl ?_
  go_frame
  refine wpl_move (.tmp 288) rfl (wanted_no rfl) (.bool false) rfl ?_
  go_frame
  refine wpl_move (.tmp 34) rfl (wanted_of rfl rfl rfl) (.int .i64 c4) rfl ?_
  go_frame
  refine wpl_move (.tmp 36) rfl (wanted_of rfl rfl rfl) (.int .i64 c4) rfl ?_
  go_frame
  refine wpl_neqInt _ _ (.tmp 290) (.tmp 291) rfl (wanted_of rfl rfl rfl) .i64 c4 rfl rfl ?_
  go_frame
  refine wpl_pick (.tmp 289) (.const (.bool true)) (.tmp 292) rfl (wanted_no rfl) rfl (.bool false) rfl ?_
  go_frame
  refine wpl_move (.tmp 293) rfl (wanted_no rfl) (.bool false) rfl ?_
  go_frame
  refine wpl_load (.tmp 33) rfl (wanted_of rfl rfl rfl) bi4 rfl F4 GI4n5n6n7.out HFI4.out ?_
  go_frame
  refine wpl_load (.tmp 35) rfl (wanted_of rfl rfl rfl) bs4 rfl F4 GS4n5n6n7.out HFI4.out ?_
  go_frame
  refine wpl_neqW (.tmp 295) (.tmp 296) rfl (wanted_of rfl rfl rfl) F4 F4 rfl rfl hne4 ?_
  go_frame
  refine wpl_pick (.tmp 294) (.const (.bool true)) (.tmp 297) rfl (wanted_no rfl) rfl (.bool false) rfl ?_
  go_frame
  refine wpl_move (.tmp 298) rfl (wanted_no rfl) (.bool false) rfl ?_
  go_frame
  refine wpl_move (.tmp 42) rfl (wanted_of rfl rfl rfl) (.int .i64 c5) rfl ?_
  go_frame
  refine wpl_move (.tmp 44) rfl (wanted_of rfl rfl rfl) (.int .i64 c5) rfl ?_
  go_frame
  refine wpl_neqInt _ _ (.tmp 300) (.tmp 301) rfl (wanted_of rfl rfl rfl) .i64 c5 rfl rfl ?_
  go_frame
  refine wpl_pick (.tmp 299) (.const (.bool true)) (.tmp 302) rfl (wanted_no rfl) rfl (.bool false) rfl ?_
  go_frame
  refine wpl_move (.tmp 303) rfl (wanted_no rfl) (.bool false) rfl ?_
  go_frame
  refine wpl_load (.tmp 41) rfl (wanted_of rfl rfl rfl) bi5 rfl F5 GI5n6n7.out HFI5.out ?_
  go_frame
  refine wpl_load (.tmp 43) rfl (wanted_of rfl rfl rfl) bs5 rfl F5 GS5n6n7.out HFI5.out ?_
  go_frame
  refine wpl_neqW (.tmp 305) (.tmp 306) rfl (wanted_of rfl rfl rfl) F5 F5 rfl rfl hne5 ?_
  go_frame
  refine wpl_pick (.tmp 304) (.const (.bool true)) (.tmp 307) rfl (wanted_no rfl) rfl (.bool false) rfl ?_
  go_frame
  refine wpl_move (.tmp 308) rfl (wanted_no rfl) (.bool false) rfl ?_
  go_frame
  refine wpl_move (.tmp 49) rfl (wanted_of rfl rfl rfl) (.int .i64 c6) rfl ?_
  go_frame
  refine wpl_move (.tmp 51) rfl (wanted_of rfl rfl rfl) (.int .i64 c6) rfl ?_
  go_frame
  refine wpl_neqInt _ _ (.tmp 310) (.tmp 311) rfl (wanted_of rfl rfl rfl) .i64 c6 rfl rfl ?_
  go_frame
  refine wpl_pick (.tmp 309) (.const (.bool true)) (.tmp 312) rfl (wanted_no rfl) rfl (.bool false) rfl ?_
  go_frame
  refine wpl_move (.tmp 313) rfl (wanted_no rfl) (.bool false) rfl ?_
  go_frame
  refine wpl_load (.tmp 48) rfl (wanted_of rfl rfl rfl) bi6 rfl F6 GI6n7.out HFI6.out ?_
  go_frame
  refine wpl_load (.tmp 50) rfl (wanted_of rfl rfl rfl) bs6 rfl F6 GS6n7.out HFI6.out ?_
  go_frame
  refine wpl_neqW (.tmp 315) (.tmp 316) rfl (wanted_of rfl rfl rfl) F6 F6 rfl rfl hne6 ?_
  go_frame
  refine wpl_pick (.tmp 314) (.const (.bool true)) (.tmp 317) rfl (wanted_no rfl) rfl (.bool false) rfl ?_
  go_frame
  refine wpl_move (.tmp 318) rfl (wanted_no rfl) (.bool false) rfl ?_
  go_frame
  refine wpl_move (.tmp 57) rfl (wanted_of rfl rfl rfl) (.int .i64 c7) rfl ?_
  go_frame
  refine wpl_move (.tmp 59) rfl (wanted_of rfl rfl rfl) (.int .i64 c7) rfl ?_
  go_frame
  refine wpl_neqInt _ _ (.tmp 320) (.tmp 321) rfl (wanted_of rfl rfl rfl) .i64 c7 rfl rfl ?_
  go_frame
  refine wpl_pick (.tmp 319) (.const (.bool true)) (.tmp 322) rfl (wanted_no rfl) rfl (.bool false) rfl ?_
  go_frame
  refine wpl_move (.tmp 323) rfl (wanted_no rfl) (.bool false) rfl ?_
  go_frame
  refine wpl_load (.tmp 56) rfl (wanted_of rfl rfl rfl) bi7 rfl F7 GI7.out HFI7.out ?_
  go_frame
  refine wpl_load (.tmp 58) rfl (wanted_of rfl rfl rfl) bs7 rfl F7 GS7.out HFI7.out ?_
  go_frame
  refine wpl_neqW (.tmp 325) (.tmp 326) rfl (wanted_of rfl rfl rfl) F7 F7 rfl rfl hne7 ?_
  go_frame
  refine wpl_pick (.tmp 324) (.const (.bool true)) (.tmp 327) rfl (wanted_no rfl) rfl (.bool false) rfl ?_
  go_frame
  clear GI3n4n5n6n7 GS3n4n5n6n7 HFI3 HF3 HF13 HZF3 hne3 GI4n5n6n7 GS4n5n6n7 HFI4 HF4 HF14 HZF4 hne4 GI5n6n7 GS5n6n7 HFI5 HF5 HF15 HZF5 hne5 GI6n7 GS6n7 HFI6 HF6 HF16 HZF6 hne6 GI7 GS7 HFI7 HF7 HF17 HZF7 hne7
  go_wp2_with fail
  refine (drawQT_any ad len cap _ (HC.out.below BN7.out)).mono ?_
  rintro e wA8 ⟨s8, D8, rfl, hD8, bA8⟩
  obtain ⟨t8, F8, c8, hF8, hI8, hS8, hcc8⟩ := bothQT s8 D8 hD8
  have HI8 := Lib.hid hI8
  have HS8 := Lib.hid hS8
  have HF8 := Lib.hid hF8
  have HD81 := Lib.hid (wav_one hD8)
  have HDI8 : Hid ((Try.prog.info? 32).map (·.size) = some D8.size) := Lib.hid (by rw [hD8.1]; exact HS37.out)
  have HZD8 : Hid (Z.size = D8.size) := Lib.hid (by rw [hD8.1]; exact HZ37.out)
  clear hI8 hS8 hF8 hD8 HC
  have HFI8 : Hid ((Try.prog.info? 32).map (·.size) = some F8.size) := Lib.hid (by rw [HF8.out.1]; exact HS37.out)
  have HZF8 : Hid (Z.size = F8.size) := Lib.hid (by rw [HF8.out.1]; exact HZ37.out)
  have HF18 := Lib.hid (finW_one HF8.out)
  have hne8 : ∀ w, (binOp .neq 32 (.agg F8) (.agg F8)).run Try.prog w = .ok (.bool false) w := fun w => neq_self t8 F8 HF8.out w
  have HB8 : Hid (Below w.heap.size w wA8) := Lib.hid (BN7.out.trans (bA8.mono BN7.out.size))
  clear bA8 BN7
  go_wp2_with (first | (refine wpList_store_row rfl 32 (.tmp 60) (.tmp 330) rfl wA8.heap.size D8 rfl rfl 32 Z (h1_0 _ _) HDI8.out HZD8.out HD81.out ?_; rw [World.setRow_alloc_new]; go_frame) | (refine wpList_load_row rfl 32 (.tmp 60) rfl wA8.heap.size rfl 32 D8 (0, 0) _ (h1_0 _ _) Try.underlying32 rfl HDI8.out ?_; go_frame))
  refine (HI8.out _).mono ?_
  rintro e wB8 ⟨rfl, bB8⟩
  have GD1 : Hid (wB8.heap[wA8.heap.size]? = some (.cells D8 32)) := Lib.hid (by rw [bB8.block _ (by rw [size_al]; omega)]; exact h1_0 _ _)
  have HB9 : Hid (Below w.heap.size w wB8) := Lib.hid ((HB8.out.alloc HB8.out.size _).trans (bB8.mono (HB8.out.alloc HB8.out.size _).size))
  have hlo : w.heap.size ≤ wA8.heap.size := HB8.out.size
  clear bB8 HB8
  generalize wA8.heap.size = bd at *
  have GD1a : Hid ((wB8.alloc (.cells F8 32)).heap[bd]? = some (.cells D8 32)) := Lib.hid (by rw [heap_alloc_old _ _ (Array.getElem?_eq_some_iff.1 GD1.out).1]; exact GD1.out)
  have hlt : bd < wB8.heap.size := (Array.getElem?_eq_some_iff.1 GD1.out).1
  go_wp2_with (first | (refine wpList_store_row rfl 32 (.tmp 61) (.tmp 334) rfl wB8.heap.size F8 rfl rfl 32 Z (h1_0 _ _) HFI8.out HZF8.out HF18.out ?_; rw [World.setRow_alloc_new]; go_frame) | (refine wpList_load_row rfl 32 (.tmp 60) rfl bd rfl 32 D8 (0, 0) _ GD1a.out Try.underlying32 rfl HDI8.out ?_; go_frame))
  refine (HS8.out _).mono ?_
  rintro e wC8 ⟨rfl, bC8⟩
  have GD2 : Hid (wC8.heap[bd]? = some (.cells D8 32)) := Lib.hid (by rw [bC8.block _ (by rw [size_al]; omega)]; exact GD1a.out)
  have GI8 : Hid (wC8.heap[wB8.heap.size]? = some (.cells F8 32)) := Lib.hid (by rw [bC8.block _ (by rw [size_al]; omega)]; exact h1_0 _ _)
  have HB10 : Hid (Below w.heap.size w wC8) := Lib.hid ((HB9.out.alloc HB9.out.size _).trans (bC8.mono (HB9.out.alloc HB9.out.size _).size))
  clear bC8 HB9 GD1 GD1a
  generalize wB8.heap.size = bi at *
  have hl1 := (Array.getElem?_eq_some_iff.1 GI8.out).1
  have GD3 : Hid ((wC8.alloc (.cells F8 32)).heap[bd]? = some (.cells D8 32)) := Lib.hid (by rw [heap_alloc_old _ _ (by omega)]; exact GD2.out)
  have GI9 : Hid ((wC8.alloc (.cells F8 32)).heap[bi]? = some (.cells F8 32)) := Lib.hid (by rw [heap_alloc_old _ _ hl1]; exact GI8.out)
  have BN8 : Hid (Below w.heap.size w (wC8.alloc (.cells F8 32))) := Lib.hid (HB10.out.alloc HB10.out.size _)
  clear GD2 GI8 HB10 hl1
  have GS9 : Hid ((wC8.alloc (.cells F8 32)).heap[wC8.heap.size]? = some (.cells F8 32)) := Lib.hid (h1_0 _ _)
  go_upto_region 42 with (refine wpList_store_row rfl 32 (.tmp 63) (.tmp 339) rfl wC8.heap.size F8 rfl rfl 32 Z (h1_0 _ _) HFI8.out HZF8.out HF18.out ?_; rw [World.setRow_alloc_new]; go_frame)
  obtain ⟨bs8, hbs8⟩ : ∃ b, b = wC8.heap.size := ⟨_, rfl⟩
  rw [← hbs8] at GS9
  rw [← hbs8]
  clear hbs8
  generalize wC8.alloc (.cells F8 32) = v8 at *
  apply wp_region_lit
  refine wpl_move (.tmp 62) rfl (wanted_no rfl) (.int .i64 c8) rfl ?_
  go_frame
  refine wpl_move (.tmp 64) rfl (wanted_no rfl) (.int .i64 c8) rfl ?_
  go_frame
  refine wpl_neqInt _ _ (.tmp 341) (.tmp 342) rfl (wanted_no rfl) .i64 c8 rfl rfl ?_
  go_frame
  refine wpl_move (.tmp 343) rfl (wanted_no rfl) (.bool false) rfl ?_
  go_frame
  refine wpl_load (.tmp 61) rfl (wanted_of rfl rfl rfl) bi rfl F8 GI9.out HFI8.out ?_
  go_frame
  refine wpl_load (.tmp 63) rfl (wanted_of rfl rfl rfl) bs8 rfl F8 GS9.out HFI8.out ?_
  go_frame
  refine wpl_neqW (.tmp 345) (.tmp 346) rfl (wanted_of rfl rfl rfl) F8 F8 rfl rfl hne8 ?_
  go_frame
  refine wpl_pick (.tmp 344) (.const (.bool true)) (.tmp 347) rfl (wanted_no rfl) rfl (.bool false) rfl ?_
  go_frame
  clear hne8 HI8 HS8 GS9
  rcases hcc8 with rfl | ⟨rfl, hon⟩
  · as_aux_lemma =>
    go_wp2_with fail
    refine wp_loop_rounds 1 ?_
    rw [rounds_succ]
    go_wp2_with fail
    go_ret
    exact ⟨rfl, BN8.out⟩
  · as_aux_lemma =>
    obtain ⟨t9, E2, E3, E4, f2, f3, f4, h2, h3, h4, heq⟩ := hon
    have hbi : bd < bi := hlt
    have HI2 := Lib.hid h2
    have HI3 := Lib.hid h3
    have HI4 := Lib.hid h4
    have HE2 : Hid ((Try.prog.info? 32).map (·.size) = some E2.size) := Lib.hid (by rw [f2.1]; exact HS37.out)
    have HE3 : Hid ((Try.prog.info? 32).map (·.size) = some E3.size) := Lib.hid (by rw [f3.1]; exact HS37.out)
    have HE4 : Hid ((Try.prog.info? 32).map (·.size) = some E4.size) := Lib.hid (by rw [f4.1]; exact HS37.out)
    have HZE2 : Hid (Z.size = E2.size) := Lib.hid (by rw [f2.1]; exact HZ37.out)
    have HZE3 : Hid (Z.size = E3.size) := Lib.hid (by rw [f3.1]; exact HZ37.out)
    have HZE4 : Hid (Z.size = E4.size) := Lib.hid (by rw [f4.1]; exact HZ37.out)
    have HFE2 : Hid (F8.size = E2.size) := Lib.hid (by rw [f2.1]; exact HF8.out.1)
    have HEE3 : Hid (E2.size = E3.size) := Lib.hid (by rw [f3.1]; exact f2.1)
    have HEE4 : Hid (E3.size = E4.size) := Lib.hid (by rw [f4.1]; exact f3.1)
    have H12 := Lib.hid (finW_one f2)
    have H13 := Lib.hid (finW_one f3)
    have H14 := Lib.hid (finW_one f4)
    clear h2 h3 h4 f2 f3 f4 hlt
    go_wp2_with fail
    refine wp_loop_rounds 4 ?_
    rw [rounds_succ]
    go_wp2_with (refine wpList_load_row rfl 32 (.tmp 61) rfl bi rfl 32 F8 (0, 0) _ GI9.out Try.underlying32 rfl HFI8.out ?_; go_frame)
    refine (HI2.out _).mono ?_
    rintro e u1 ⟨rfl, b1⟩
    obtain ⟨K1, N1, L1, M1⟩ := turn_world hbi GI9.out GD3.out BN8.out (Nat.le_of_lt (Nat.lt_of_le_of_lt hlo hbi)) b1 E2
    have K1 := Lib.hid K1
    have N1 := Lib.hid N1
    have L1 := Lib.hid L1
    have M1 := Lib.hid M1
    clear b1 GI9 GD3 BN8
    go_wp2_with (first | (refine wpList_store_row rfl 32 (.tmp 66) (.tmp 360) rfl u1.heap.size E2 rfl rfl 32 Z (h1_0 _ _) HE2.out HZE2.out H12.out ?_; rw [World.setRow_alloc_new]; go_frame) | (refine wpList_load_row rfl 32 (.tmp 66) rfl u1.heap.size rfl 32 E2 (0, 0) _ (h1_0 _ _) Try.underlying32 rfl HE2.out ?_; go_frame) | (refine wpList_store_row rfl 32 (.tmp 61) (.tmp 364) rfl bi E2 rfl rfl 32 F8 K1.out HE2.out HFE2.out H12.out ?_))
    generalize (u1.alloc (.cells E2 32)).setRow bi E2 = y1 at *
    clear K1 HI2
    rw [rounds_succ]
    go_wp2_with (refine wpList_load_row rfl 32 (.tmp 61) rfl bi rfl 32 E2 (0, 0) _ N1.out Try.underlying32 rfl HE2.out ?_; go_frame)
    refine (HI3.out _).mono ?_
    rintro e u2 ⟨rfl, b2⟩
    obtain ⟨K2, N2, L2, M2⟩ := turn_world hbi N1.out L1.out M1.out (Nat.le_of_lt (Nat.lt_of_le_of_lt hlo hbi)) b2 E3
    have K2 := Lib.hid K2
    have N2 := Lib.hid N2
    have L2 := Lib.hid L2
    have M2 := Lib.hid M2
    clear b2 N1 L1 M1
    go_wp2_with (first | (refine wpList_store_row rfl 32 (.tmp 66) (.tmp 360) rfl u2.heap.size E3 rfl rfl 32 Z (h1_0 _ _) HE3.out HZE3.out H13.out ?_; rw [World.setRow_alloc_new]; go_frame) | (refine wpList_load_row rfl 32 (.tmp 66) rfl u2.heap.size rfl 32 E3 (0, 0) _ (h1_0 _ _) Try.underlying32 rfl HE3.out ?_; go_frame) | (refine wpList_store_row rfl 32 (.tmp 61) (.tmp 364) rfl bi E3 rfl rfl 32 E2 K2.out HE3.out HEE3.out H13.out ?_))
    generalize (u2.alloc (.cells E3 32)).setRow bi E3 = y2 at *
    clear K2 HI3
    rw [rounds_succ]
    go_wp2_with (refine wpList_load_row rfl 32 (.tmp 61) rfl bi rfl 32 E3 (0, 0) _ N2.out Try.underlying32 rfl HE3.out ?_; go_frame)
    refine (HI4.out _).mono ?_
    rintro e u3 ⟨rfl, b3⟩
    obtain ⟨K3, N3, L3, M3⟩ := turn_world hbi N2.out L2.out M2.out (Nat.le_of_lt (Nat.lt_of_le_of_lt hlo hbi)) b3 E4
    have K3 := Lib.hid K3
    have N3 := Lib.hid N3
    have L3 := Lib.hid L3
    have M3 := Lib.hid M3
    clear b3 N2 L2 M2
    go_wp2_with (first | (refine wpList_store_row rfl 32 (.tmp 66) (.tmp 360) rfl u3.heap.size E4 rfl rfl 32 Z (h1_0 _ _) HE4.out HZE4.out H14.out ?_; rw [World.setRow_alloc_new]; go_frame) | (refine wpList_load_row rfl 32 (.tmp 66) rfl u3.heap.size rfl 32 E4 (0, 0) _ (h1_0 _ _) Try.underlying32 rfl HE4.out ?_; go_frame) | (refine wpList_store_row rfl 32 (.tmp 61) (.tmp 364) rfl bi E4 rfl rfl 32 E3 K3.out HE4.out HEE4.out H14.out ?_))
    generalize (u3.alloc (.cells E4 32)).setRow bi E4 = y3 at *
    clear K3 HI4
    rw [rounds_succ]
    go_upto_region 51 with fail
    apply wp_region_lit
    refine wpl_move (.tmp 62) rfl (wanted_no rfl) (.int .i64 0) rfl ?_
    go_frame
    refine wpl_neqInt _ _ (.tmp 365) (.const (.int .i64 0)) rfl (wanted_no rfl) .i64 0 rfl rfl ?_
    go_frame
    refine wpl_move (.tmp 366) rfl (wanted_no rfl) (.bool false) rfl ?_
    go_frame
    refine wpl_load (.tmp 61) rfl (wanted_of rfl rfl rfl) bi rfl E4 N3.out HE4.out ?_
    go_frame
    refine wpl_load (.tmp 60) rfl (wanted_of rfl rfl rfl) bd rfl D8 L3.out HDI8.out ?_
    go_frame
    refine wpl_eqlW (.tmp 368) (.tmp 369) rfl (wanted_of rfl rfl rfl) E4 D8 rfl rfl heq ?_
    go_frame
    refine wpl_pick (.tmp 367) (.const (.bool true)) (.tmp 370) rfl (wanted_no rfl) rfl (.bool true) rfl ?_
    go_frame
    go_wp2_with fail
    go_ret
    exact ⟨rfl, M3.out⟩
end Go.Proofs.Ytjmfffgddmnkmaa
