/- Many cells stored into the middle of a block that is known whole, and loaded out of it: the block behind it, known whole again. Condition: they fit. A call whose run the kernel can reckon out by itself, in any world and under any callers, returns what that run gives; calls whose answers are known already are taken as known. Condition: none. The program's and the model's ways to ask whether a float32 is finite answer alike. Condition: none. -/
import Derived.Test.YtclflnpbiiimiaaDoorM0
import Derived.Deep.MidRow
import Derived.Calls
import Derived.KernelRfl
import Derived.Laws.FloatArith
import Derived.Deep.Draws
namespace Go.Proofs.YtclflnpbiiimiaaDoor
open Go Go.RowKit

/-- cells laid over others from a place on -/
def onto (C : Array Value) (o : Nat) : List Value → Array Value
  | [] => C
  | v :: r => onto (C.setIfInBounds o v) (o + 1) r
theorem onto_size (vs : List Value) : ∀ (C : Array Value) (o : Nat), (onto C o vs).size = C.size := by
  induction vs with
  | nil => intro C o; rfl
  | cons v r ih => intro C o; simp [onto, ih]
theorem onto_get (vs : List Value) : ∀ (C : Array Value) (o i : Nat), o + vs.length ≤ C.size → (onto C o vs)[i]? = if o ≤ i ∧ i < o + vs.length then vs[i - o]? else C[i]? := by
  induction vs with
  | nil => intro C o i _; simp [onto]; omega
  | cons v r ih =>
    intro C o i h
    simp only [List.length_cons] at h ⊢
    rw [onto, ih _ _ _ (by simp; omega), Array.getElem?_setIfInBounds]
    by_cases h1 : o = i
    · subst h1
      simp [show o < C.size by omega, show ¬ o + 1 ≤ o by omega]
    · by_cases h2 : o + 1 ≤ i ∧ i < o + 1 + r.length
      · rw [if_pos h2, if_pos (by omega), show i - o = (i - (o + 1)) + 1 by omega]
        simp
      · rw [if_neg h2, if_neg h1, if_neg (by omega)]
theorem setCells_row (b : Nat) (t : TypeId) (vs : List Value) : ∀ (o : Nat) (w : World) (C : Array Value), w.heap[b]? = some (.cells C t (0, 0)) → w.setCells b o vs = w.setRow b (onto C o vs) := by
  induction vs with
  | nil => intro o w C h; rw [World.setCells]; exact (setRow_self w b C t (0, 0) h).symm
  | cons v r ih =>
    intro o w C h
    rw [World.setCells, onto, setCell_eq_setRow w b o C t (0, 0) v h, ih (o + 1) _ _ (setRow_heap w b C _ t _ h), setRow_setRow]
theorem there_row (w : World) (b o n : Nat) (t : TypeId) (C : Array Value) (h : w.heap[b]? = some (.cells C t (0, 0))) (hn : o + n ≤ C.size) : w.there b o n := by
  intro j hj
  refine ⟨?_, frozen_of_row w b _ C t h⟩
  rw [cell_of_row w b (o + j) C t (0, 0) h, Array.getElem?_eq_getElem (by omega)]
  rfl
theorem range_row (w : World) (b o : Nat) (t : TypeId) (C : Array Value) (fr : Nat × Nat) (vs : List Value) (h : w.heap[b]? = some (.cells C t fr)) (hv : ∀ j, j < vs.length → C[o + j]? = vs[j]?) : w.rangeAt b o vs := by
  intro j v hj
  rw [cell_of_row w b (o + j) C t fr h, hv j (List.getElem?_eq_some_iff.1 hj).1, hj]

section
variable {P : Program}
theorem wpList_store_onto {ops : Array Oper} {rest : List Oper} {op : Oper} {a : Act} {w : World} {Q : Exit → Act → World → Prop} (hgd : op.guard = none) (ty : TypeId) (x y : Operand) (ho : op.op = .store ty x y)
    (b o : Nat) (cells : Array Value) (hx : a.eval x = .pointer (some ⟨b, o, none⟩)) (hy : a.eval y = .agg cells)
    (t : TypeId) (C : Array Value) (hg : w.heap[b]? = some (.cells C t (0, 0))) (hn : o + cells.size ≤ C.size) (hi : (P.info? ty).map (·.size) = some cells.size) (h1 : cells.all (·.oneCell') = true)
    (h : wpList P ops Q rest (a.put op.dst undef) (w.setRow b (onto C o cells.toList))) : wpList P ops Q (op :: rest) a w :=
  wpList_store_mid hgd ty x y ho b o cells hx hy (there_row w b o _ t C hg hn) hi h1 (by rw [setCells_row b t _ o w C hg]; exact h)
theorem wpList_load_part {ops : Array Oper} {rest : List Oper} {op : Oper} {a : Act} {w : World} {Q : Exit → Act → World → Prop} (hgd : op.guard = none) (ty : TypeId) (x : Operand) (ho : op.op = .load ty x)
    (b o : Nat) (hx : a.eval x = .pointer (some ⟨b, o, none⟩)) (vs : Array Value) (d : TypeDesc) (t : TypeId) (C : Array Value) (fr : Nat × Nat) (hg : w.heap[b]? = some (.cells C t fr)) (hv : ∀ j, j < vs.size → C[o + j]? = vs[j]?)
    (hu : P.underlying ty = some d) (hd : d.isRow = true) (hi : (P.info? ty).map (·.size) = some vs.size)
    (h : wpList P ops Q rest (a.put op.dst (.agg vs)) w) : wpList P ops Q (op :: rest) a w :=
  wpList_load_mid hgd ty x ho b o hx vs.toList d (range_row w b o t C fr vs.toList hg (fun j hj => by simpa using hv j (by simpa using hj))) hu hd (by simpa using hi) (by simpa using h)
end

/-- a picture's cells -/
def pic (s : Int) (zs : Array Value) : Array Value := #[.int .i64 s] ++ zs
theorem pic_zero (s : Int) (zs : Array Value) : (pic s zs)[0]? = some (.int .i64 s) := by
  unfold pic
  rw [Array.getElem?_append_left (by simp)]; rfl
theorem pic_succ (s : Int) (zs : Array Value) (i : Nat) : (pic s zs)[i + 1]? = zs[i]? := by
  unfold pic
  rw [Array.getElem?_append_right (by simp)]; simp
theorem pic_size (s : Int) (zs : Array Value) (h : zs.size = 64) : (pic s zs).size = 65 := by simp [pic, h]
theorem pic_part (s : Int) (zs : Array Value) : ∀ j, j < zs.size → (pic s zs)[1 + j]? = zs[j]? := fun j _ => by rw [Nat.add_comm, pic_succ]
theorem pic_onto (s : Int) (zs Z : Array Value) (h : zs.size = 64) (hZ : Z.size = 65) : onto (Z.setIfInBounds 0 (.int .i64 s)) 1 zs.toList = pic s zs := by
  apply Array.ext_getElem?
  intro i
  rw [onto_get _ _ _ _ (by simp [h, hZ])]
  cases i with
  | zero => simp [pic_zero, hZ]
  | succ i =>
    rw [pic_succ]
    by_cases hi : i < 64
    · simp [h, show i < 64 from hi]; omega
    · rw [if_neg (by simp [h]; omega)]
      rw [Array.getElem?_eq_none (by simp [hZ]; omega), Array.getElem?_eq_none (by omega)]
theorem pic_one (s : Int) (zs : Array Value) (hz : Floats zs) : (pic s zs).all (·.oneCell') = true := by
  unfold pic
  rw [Array.all_append, floats_one zs hz]
  simp [Value.oneCell']

theorem setRow_al2 (w : World) (A : Obj) (Z cs : Array Value) (t : TypeId) : ((w.alloc A).alloc (.cells Z t)).setRow (w.heap.size + 1) cs = (w.alloc A).alloc (.cells cs t) := by
  have h := World.setRow_alloc_new (w.alloc A) Z cs t
  rwa [size_al] at h

theorem pic_set0 (s t : Int) (zs : Array Value) : (pic s zs).setIfInBounds 0 (.int .i64 t) = pic t zs := by
  apply Array.ext_getElem?
  intro i
  rw [Array.getElem?_setIfInBounds]
  cases i with
  | zero => rw [if_pos rfl, if_pos (by simp [pic]; omega), pic_zero]
  | succ i => rw [if_neg (by omega), pic_succ, pic_succ]

theorem setCell_al2 (w : World) (A : Obj) (C : Array Value) (t : TypeId) (n j : Nat) (v : Value) :
    (((w.alloc A).alloc (.cells C t)).drewN n).setCell ⟨w.heap.size + 1, j, none⟩ v = ((w.alloc A).alloc (.cells (C.setIfInBounds j v) t)).drewN n := by
  have h := World.setCell_alloc_at (w := w.alloc A) C t (w.heap.size + 1) j v (by rw [size_al])
  rw [← h]
  rfl

theorem below_al2 (w : World) (A B : Obj) : Below w.heap.size w ((w.alloc A).alloc B) := ((Below.refl _ _).alloc (Nat.le_refl _) _).alloc (by rw [size_al]; omega) _

end Go.Proofs.YtclflnpbiiimiaaDoor

namespace Go.Proofs.YtclflnpbiiimiaaDoor
open Go

/-- one step of the lone goroutine, or nothing -/
def stepF (P : Program) (fr : Frame) (cs : List Frame) (w : World) : Option (Frame × List Frame × World) :=
  match (stepG P true { frame := fr, callers := cs, status := .running, dying := none } w).bare with
  | .go { frame := fr', callers := cs', status := .running, dying := none, offers := none } w' _ => some (fr', cs', w')
  | _ => none

theorem stepF_step {P : Program} {fr fr' : Frame} {cs cs' : List Frame} {w w' : World} (h : stepF P fr cs w = some (fr', cs', w')) :
    step P (lone fr cs w) = .next (lone fr' cs' w') := by
  unfold stepF at h
  split at h
  · rename_i f c w1 es he
    cases h
    refine step_lone_go ?_
    generalize stepG P true { frame := fr, callers := cs, status := .running, dying := none } w = s at he
    cases s <;> simp at he ⊢
    obtain ⟨h1, h2, _⟩ := he
    exact ⟨h1, h2⟩
  · cases h

/-- the call that stands next, if it is of one of the functions 'is' -/
def callAt (P : Program) (is : FuncId → Bool) (fr : Frame) (w : World) : Option (FuncId × Array Value × World) :=
  match fr.mode, fr.roundOf, fr.todo with
  | .run, none, .inRegion ops (i :: _) :: _ =>
    match ops[i]? with
    | some o =>
      match o.op with
      | .call { callee := .value (.func g), .. } =>
        if is g && Region.wanted o (yielded ops fr.tmps) then
          match (execOp fr.eval o).run P w with
          | .ok (.enter g' args) w' => some (g', args, w')
          | _ => none
        else none
      | _ => none
    | none => none
  | _, _, _ => none

theorem callAt_step {P : Program} {is : FuncId → Bool} {fr : Frame} {w w' : World} {g : FuncId} {args : Array Value} (cs : List Frame)
    (h : callAt P is fr w = some (g, args, w')) : step P (lone fr cs w) = .next (lone (Frame.enter P g args .normal) (fr :: cs) w') := by
  unfold callAt at h
  split at h
  · rename_i ops i rest k hm hr ht
    split at h
    · rename_i o ho
      split at h
      · rename_i op c g0 at0 hop
        split at h
        · rename_i hw
          simp only [Bool.and_eq_true] at hw
          split at h
          · rename_i g1 args1 w1 hrun
            cases h
            refine step_lone_go ?_
            have hrunT := Sem.runT_fst P (execOp fr.eval o) w #[]
            rw [hrun] at hrunT
            cases fr with
            | mk fn tmps todo defers mode kind roundOf =>
              simp only at hm hr ht hw
              subst hm hr ht
              simp only [stepG, stepG.exec, stepG.oper, Frame.oper?, ho, hw.2, Option.map_some, Option.getD_some, if_true, stepG.apply]
              generalize hR : Sem.runT P (execOp (Frame.eval _) o) w #[] = R at *
              obtain ⟨r, es⟩ := R
              simp only at hrunT
              subst hrunT
              simp [GStep.after, GStep.bare]
          · cases h
        · cases h
      · cases h
    · cases h
  · cases h

/-- steps, as many as the fuel lets, till 'stop' says so; a call of one of the functions 'is' is taken as 'memo' knows it -/
def runM (P : Program) (is : FuncId → Bool) (memo : FuncId → Array Value → Option Value) (stop : Frame → Bool) :
    Nat → Frame → List Frame → World → Option (Frame × List Frame × World)
  | 0, _, _, _ => none
  | n + 1, fr, cs, w =>
    if stop fr then some (fr, cs, w) else
    match callAt P is fr w with
    | some (g, args, w') =>
      match memo g args with
      | some v => runM P is memo stop n (fr.finish v) cs w'
      | none => none
    | none =>
      match stepF P fr cs w with
      | some (fr', cs', w') => runM P is memo stop n fr' cs' w'
      | none => none

/-- n steps -/
def runF (P : Program) : Nat → Frame → List Frame → World → Option (Frame × List Frame × World)
  | 0, fr, cs, w => some (fr, cs, w)
  | n + 1, fr, cs, w => match stepF P fr cs w with
    | some (fr', cs', w') => runF P n fr' cs' w'
    | none => none

theorem runF_steps {P : Program} (n : Nat) {fr fr' : Frame} {cs cs' : List Frame} {w w' : World} (h : runF P n fr cs w = some (fr', cs', w')) :
    Steps P (lone fr cs w) (lone fr' cs' w') := by
  induction n generalizing fr cs w with
  | zero => cases h; exact Steps.refl _ _
  | succ n ih =>
    simp only [runF] at h
    split at h
    · rename_i f c w1 he
      exact Steps.head (stepF_step he) (ih h)
    · cases h

/-- the frame that a run ends in -/
def topOf : Option (Frame × List Frame × World) → Frame
  | some (fr, _, _) => fr
  | none => default

/-- slots: all empty but these -/
def slots (n : Nat) (l : List (Nat × Value)) : Array Value := l.foldl (fun a x => a.setIfInBounds x.1 x.2) (Array.replicate n undef)

/-- what is known of calls -/
def Known (P : Program) (memo : FuncId → Array Value → Option Value) : Prop :=
  ∀ g args v, memo g args = some v → ∀ w, Calls P g args w fun e w' => e = .returned v ∧ w = w'

theorem known_none (P : Program) : Known P (fun _ _ => none) := fun _ _ _ h => by cases h

theorem runM_steps {P : Program} {is : FuncId → Bool} {memo : FuncId → Array Value → Option Value} {stop : Frame → Bool} (hk : Known P memo) (n : Nat)
    {fr fr' : Frame} {cs cs' : List Frame} {w w' : World} (h : runM P is memo stop n fr cs w = some (fr', cs', w')) :
    Steps P (lone fr cs w) (lone fr' cs' w') := by
  induction n generalizing fr cs w with
  | zero => cases h
  | succ n ih =>
    simp only [runM] at h
    split at h
    · cases h; exact Steps.refl _ _
    · split at h
      · rename_i g args w1 hc
        split at h
        · rename_i v hv
          obtain ⟨e, w2, fr2, ⟨he, hw⟩, hcomes, hfn, hl⟩ := hk g args v hv w1 (fr :: cs)
          subst he
          subst hw
          exact Steps.head (callAt_step cs hc) (Steps.trans hcomes (Steps.head (step_leave_returned hl) (ih h)))
        · cases h
      · split at h
        · rename_i fr1 cs1 w1 hs
          exact Steps.head (stepF_step hs) (ih h)
        · cases h

/-- where a function's call is over -/
def over (f : FuncId) (fr : Frame) : Bool := fr.fn == f && fr.mode matches .returning

/-- what a call hands back, from a frame of it on -/
def outM (P : Program) (is : FuncId → Bool) (memo : FuncId → Array Value → Option Value) (n : Nat) (f : FuncId) (fr : Frame) (cs : List Frame) (w : World) :
    Option (Value × List Frame × World × World) :=
  match runM P is memo (over f) n fr cs w with
  | some (fr, cs', w') =>
    match fr.mode, fr.defers, fr.kind, fr.fn == f, P.funcs[fr.fn]? with
    | .returning, [], .normal, true, some fn =>
      match (results fn fr.tmps).run P w' with
      | .ok v w'' => some (v, cs', w', w'')
      | .halt _ _ => none
    | _, _, _, _, _ => none
  | none => none

theorem calls_from {P : Program} {is : FuncId → Bool} {memo : FuncId → Array Value → Option Value} (hk : Known P memo) (n : Nat) {f : FuncId} {args : Array Value}
    {w : World} {v : Value} (fr0 : Frame) (h0 : ∀ cs, Steps P (lone (Frame.enter P f args .normal) cs w) (lone fr0 cs w))
    (h : ∀ cs, outM P is memo n f fr0 cs w = some (v, cs, w, w)) : Calls P f args w fun e w' => e = .returned v ∧ w = w' := by
  intro cs
  have h := h cs
  unfold outM at h
  split at h
  · rename_i fr cs' w' hr
    split at h
    · rename_i fn hm hd hkd hf hfn
      split at h
      · rename_i v' w'' he
        cases h
        exact ⟨.returned v, _, fr, ⟨rfl, rfl⟩, Steps.trans (h0 cs) (runM_steps hk n hr), by simpa using hf, hm, hd, hkd, fn, hfn, he⟩
      · cases h
    · cases h
  · cases h

theorem calls_of {P : Program} (is : FuncId → Bool) {memo : FuncId → Array Value → Option Value} (hk : Known P memo) (n : Nat) {f : FuncId} {args : Array Value}
    {w : World} {v : Value} (h : ∀ cs, outM P is memo n f (Frame.enter P f args .normal) cs w = some (v, cs, w, w)) :
    Calls P f args w fun e w' => e = .returned v ∧ w = w' :=
  calls_from hk n _ (fun _ => Steps.refl _ _) h

end Go.Proofs.YtclflnpbiiimiaaDoor

namespace Go.Proofs.YtclflnpbiiimiaaDoor
open Go Go.RowKit

theorem abs_run (b : Nat) (w : World) : Calls Tryd.prog 76 #[.float .f64 b] w fun e w' => e = .returned (.float .f64 ((IntKind.u64.wrap ((BitVec.ofInt 64 (b : Int)) &&& ~~~ (BitVec.ofInt 64 9223372036854775808)).toNat).toNat)) ∧ w = w' :=
  calls_of (fun _ => false) (known_none _) 99 (fun cs => by kernel_rfl)

theorem abs_val (b : Nat) (h : b < 18446744073709551616) :
    (IntKind.u64.wrap ((BitVec.ofInt 64 (b : Int)) &&& ~~~ (BitVec.ofInt 64 9223372036854775808)).toNat).toNat = b % 9223372036854775808 := by
  have h1 : ~~~ (BitVec.ofInt 64 9223372036854775808) = BitVec.ofNat 64 9223372036854775807 := by decide
  have h2 : BitVec.ofInt 64 (b : Int) = BitVec.ofNat 64 b := BitVec.ofInt_natCast 64 b
  have h3 : b &&& 9223372036854775807 = b % 9223372036854775808 := Nat.and_two_pow_sub_one_eq_mod b 63
  rw [h1, h2, BitVec.toNat_and, BitVec.toNat_ofNat, BitVec.toNat_ofNat, show b % 2 ^ 64 = b from Nat.mod_eq_of_lt h, show 9223372036854775807 % 2 ^ 64 = 9223372036854775807 from rfl, h3, IntKind.wrap_u64]
  omega

theorem abs_any (b : Nat) (h : b < 18446744073709551616) (w : World) : Calls Tryd.prog 76 #[.float .f64 b] w fun e w' => e = .returned (.float .f64 (b % 9223372036854775808)) ∧ w = w' := by
  have := abs_run b w
  rwa [abs_val b h] at this

/-- a float less itself, where it is none -/
theorem run_sub_inf (x : Nat) (h : fin x = false) (w : World) : (binOp .sub 38 (.float .f32 x) (.float .f32 x)).run Tryd.prog w = .ok (.float .f32 (nan32 (w.tape w.drawn (.nanBits .f32 x x)))) w.drew := by
  have h' : FloatKind.f32.format.sub x x = none := sub_inf x h
  have e : (binOp .sub 38 (.float .f32 x) (.float .f32 x)).run Tryd.prog w = ((choose (.nanBits .f32 x x)).run Tryd.prog w).andThen fun y w' => .ok (.float .f32 y) w' := by
    simp [binOp, Op.floatArith, h']
  rw [e, run_choose_drew]
  rfl

/-- a float32 that is none, as a float64 -/
theorem run_conv_nan (x : Nat) (s : Bool) (t : Nat) (h : Ieee.single.read x = .nan s t) (w : World) : (convert 38 85 (.float .f32 x)).run Tryd.prog w = .ok (.float .f64 (nan64 (w.tape w.drawn (.nanConv .f64 x)))) w.drew := by
  have h' : FloatKind.f32.decode x = .nan s t := h
  have e : (convert 38 85 (.float .f32 x)).run Tryd.prog w = ((choose (.nanConv .f64 x)).run Tryd.prog w).andThen fun y w' => .ok (.float .f64 y) w' := by
    simp [convert, run_underlying Tryd.underlying38, run_underlying Tryd.underlying85, Conv.floatToFloat, h']
  rw [e, run_choose_drew]
  rfl
theorem run_conv_inf (x : Nat) (s : Bool) (h : Ieee.single.read x = .infinity s) (w : World) : (convert 38 85 (.float .f32 x)).run Tryd.prog w = .ok (.float .f64 (Ieee.double.write (.infinity s))) w := by
  have h' : FloatKind.f32.decode x = .infinity s := h
  exact run_convert_float_float w 38 85 .f32 .f64 x _ (by rw [Tryd.underlying38]; rfl) Tryd.underlying85 (by simp [floatToFloatBits, h']; rfl)
theorem run_conv_fin (x : Nat) (h : fin x = true) (w : World) : (convert 38 85 (.float .f32 x)).run Tryd.prog w = .ok (.float .f64 (conv x)) w := by
  obtain ⟨s, m, p, hr, _⟩ := fin_read x h
  have h' : FloatKind.f32.decode x = .number s m p := hr
  have hi := (conv_finite x h).1
  have hc : conv x = FloatKind.f64.encode (.number s m p) := by unfold conv; rw [hr]; rfl
  have hi' : (FloatKind.f64.decode (FloatKind.f64.encode (.number s m p))).isInfinity = false := by rw [← hc]; exact hi
  exact run_convert_float_float w 38 85 .f32 .f64 x _ (by rw [Tryd.underlying38]; rfl) Tryd.underlying85 (by simp [floatToFloatBits, h', hi', hc])

theorem fine_yes (x : Nat) (h : fin x = true) (w : World) : Calls Tryd.prog 59 #[.float .f32 x] w fun e w' => e = .returned (.bool true) ∧ ∃ n, w' = w.drewN n := by
  have h1 := fun w => run_float_arith (P := Tryd.prog) w .sub 38 .f32 x x 0 (sub_fin x h)
  have h2 : (FloatKind.f32.format.order 0 0 == some .eq) = true := by decide
  clear h
  go_enter Tryd.func59, Tryd.ntmps59
  go_wp2
  go_ret
  exact ⟨rfl, 0, rfl⟩

theorem fine_no (x : Nat) (h : fin x = false) (w : World) : Calls Tryd.prog 59 #[.float .f32 x] w fun e w' => e = .returned (.bool false) ∧ ∃ n, w' = w.drewN n := by
  have h1 := run_sub_inf x h w
  obtain ⟨y, hy⟩ : ∃ y, y = nan32 (w.tape w.drawn (.nanBits .f32 x x)) := ⟨_, rfl⟩
  have h2 : (FloatKind.f32.format.order y 0 == some .eq) = false := by
    rw [hy]
    rw [show FloatKind.f32.format.order (nan32 (w.tape w.drawn (.nanBits .f32 x x))) 0 = none from order_nan32 _ _]
    rfl
  rw [← hy] at h1
  clear h hy
  go_enter Tryd.func59, Tryd.ntmps59
  go_wp2
  go_ret
  exact ⟨rfl, 1, rfl⟩

theorem fine_any (x : Nat) (w : World) : Calls Tryd.prog 59 #[.float .f32 x] w fun e w' => e = .returned (.bool (fin x)) ∧ ∃ n, w' = w.drewN n := by
  cases h : fin x
  · exact fine_no x h w
  · exact fine_yes x h w

theorem finite_yes (x : Nat) (h : fin x = true) (w : World) : Calls Tryd.prog 57 #[.float .f32 x] w fun e w' => e = .returned (.bool true) ∧ ∃ n, w' = w.drewN n := by
  have h1 := run_conv_fin x h
  have h2 := max_fin x h
  have h3 := Lib.hid (abs_any (conv x) (conv_finite x h).2)
  generalize conv x = y at *
  have h2' : (FloatKind.f64.format.order (y % 9223372036854775808) 5183643170566569984 == some .lt || FloatKind.f64.format.order (y % 9223372036854775808) 5183643170566569984 == some .eq) = true := h2
  obtain ⟨z, hz⟩ : ∃ z, z = y % 9223372036854775808 := ⟨_, rfl⟩
  rw [← hz] at h2' h3
  clear h2 hz h
  go_enter Tryd.func57, Tryd.ntmps57
  go_wp2_with (go_at_call 76; refine (h3.out _).mono ?_; rintro e w' ⟨rfl, rfl⟩)
  go_ret
  exact ⟨rfl, 0, rfl⟩

theorem finite_no (x : Nat) (h : fin x = false) (w : World) : Calls Tryd.prog 57 #[.float .f32 x] w fun e w' => e = .returned (.bool false) ∧ ∃ n, w' = w.drewN n := by
  rcases inf_read x h with ⟨s, hs⟩ | ⟨s, t, hs⟩
  · have h1 := run_conv_inf x s hs
    have h2 := max_inf s
    have h3 := Lib.hid (abs_any (Ieee.double.write (.infinity s)) (by cases s <;> decide))
    generalize Ieee.double.write (.infinity s) = y at *
    obtain ⟨z, hz⟩ : ∃ z, z = y % 9223372036854775808 := ⟨_, rfl⟩
    rw [← hz] at h2 h3
    have h2' : (FloatKind.f64.format.order z 5183643170566569984 == some .lt || FloatKind.f64.format.order z 5183643170566569984 == some .eq) = false := h2
    clear h2 hz h hs
    go_enter Tryd.func57, Tryd.ntmps57
    go_wp2_with (go_at_call 76; refine (h3.out _).mono ?_; rintro e w' ⟨rfl, rfl⟩)
    go_ret
    exact ⟨rfl, 0, rfl⟩
  · have h1 := run_conv_nan x s t hs w
    obtain ⟨q, hq⟩ : ∃ q, q = w.tape w.drawn (.nanConv .f64 x) := ⟨_, rfl⟩
    rw [← hq] at h1
    have h2 : (FloatKind.f64.format.order (nan64 q % 9223372036854775808) 5183643170566569984 == some .lt || FloatKind.f64.format.order (nan64 q % 9223372036854775808) 5183643170566569984 == some .eq) = false := by
      rw [show FloatKind.f64.format.order (nan64 q % 9223372036854775808) 5183643170566569984 = none from order_nan64 _ _]
      rfl
    have h3 := Lib.hid (abs_any (nan64 q) (nan64_mod q).2)
    obtain ⟨z, hz⟩ : ∃ z, z = nan64 q % 9223372036854775808 := ⟨_, rfl⟩
    rw [← hz] at h2 h3
    clear hz hq h hs
    generalize nan64 q = y at *
    go_enter Tryd.func57, Tryd.ntmps57
    go_wp2_with (go_at_call 76; refine (h3.out _).mono ?_; rintro e w' ⟨rfl, rfl⟩)
    go_ret
    exact ⟨rfl, 1, rfl⟩

theorem finite_any (x : Nat) (w : World) : Calls Tryd.prog 57 #[.float .f32 x] w fun e w' => e = .returned (.bool (fin x)) ∧ ∃ n, w' = w.drewN n := by
  cases h : fin x
  · exact finite_no x h w
  · exact finite_yes x h w

/-- a side -/
def side (n : Int) : Bool := n == 1 || n == 2 || n == 4 || n == 8

end Go.Proofs.YtclflnpbiiimiaaDoor
