/- A call whose run the kernel can reckon out by itself, in any world and under any callers, returns what that run gives; calls whose answers are known already are taken as known. Condition: none. The program's and the model's ways to ask whether a float32 is finite answer alike. Condition: none. -/
import Derived.Calls
import Derived.KernelRfl
import Derived.Test.YtjmfffgddmnkmacMid
import Derived.Test.YtjmfffgddmnkmacFin
import Derived.Laws.FloatArith
import Derived.Deep.Draws
namespace Go.Proofs.Ytjmfffgddmnkmac
open Go

/-- one step of the lone goroutine, or nothing -/
def stepF (P : Program) (fr : Frame) (cs : List Frame) (w : World) : Option (Frame × List Frame × World) :=
  match (stepG P true { frame := fr, callers := cs, status := .running, dying := none } w).bare with
  | .go { frame := fr', callers := cs', status := .running, dying := none, offers := none } w' _ => some (fr', cs', w')
  | _ => none

theorem stepF_step {P : Program} {fr fr' : Frame} {cs cs' : List Frame} {w w' : World} (h : stepF P fr cs w = some (fr', cs', w')) :
    step P (lone fr cs w) = .next (lone fr' cs' w') := by
  unfold stepF at h
  split at h
  · rename_i f c w1 es he
    cases h
    refine step_lone_go ?_
    generalize stepG P true { frame := fr, callers := cs, status := .running, dying := none } w = s at he
    cases s <;> simp at he ⊢
    obtain ⟨h1, h2, _⟩ := he
    exact ⟨h1, h2⟩
  · cases h

/-- the call that stands next, if it is of one of the functions 'is' -/
def callAt (P : Program) (is : FuncId → Bool) (fr : Frame) (w : World) : Option (FuncId × Array Value × World) :=
  match fr.mode, fr.roundOf, fr.todo with
  | .run, none, .inRegion ops (i :: _) :: _ =>
    match ops[i]? with
    | some o =>
      match o.op with
      | .call { callee := .value (.func g), .. } =>
        if is g && Region.wanted o (yielded ops fr.tmps) then
          match (execOp fr.eval o).run P w with
          | .ok (.enter g' args) w' => some (g', args, w')
          | _ => none
        else none
      | _ => none
    | none => none
  | _, _, _ => none

theorem callAt_step {P : Program} {is : FuncId → Bool} {fr : Frame} {w w' : World} {g : FuncId} {args : Array Value} (cs : List Frame)
    (h : callAt P is fr w = some (g, args, w')) : step P (lone fr cs w) = .next (lone (Frame.enter P g args .normal) (fr :: cs) w') := by
  unfold callAt at h
  split at h
  · rename_i ops i rest k hm hr ht
    split at h
    · rename_i o ho
      split at h
      · rename_i op c g0 at0 hop
        split at h
        · rename_i hw
          simp only [Bool.and_eq_true] at hw
          split at h
          · rename_i g1 args1 w1 hrun
            cases h
            refine step_lone_go ?_
            have hrunT := Sem.runT_fst P (execOp fr.eval o) w #[]
            rw [hrun] at hrunT
            cases fr with
            | mk fn tmps todo defers mode kind roundOf =>
              simp only at hm hr ht hw
              subst hm hr ht
              simp only [stepG, stepG.exec, stepG.oper, Frame.oper?, ho, hw.2, Option.map_some, Option.getD_some, if_true, stepG.apply]
              generalize hR : Sem.runT P (execOp (Frame.eval _) o) w #[] = R at *
              obtain ⟨r, es⟩ := R
              simp only at hrunT
              subst hrunT
              simp [GStep.after, GStep.bare]
          · cases h
        · cases h
      · cases h
    · cases h
  · cases h

/-- steps, as many as the fuel lets, till 'stop' says so; a call of one of the functions 'is' is taken as 'memo' knows it -/
def runM (P : Program) (is : FuncId → Bool) (memo : FuncId → Array Value → Option Value) (stop : Frame → Bool) :
    Nat → Frame → List Frame → World → Option (Frame × List Frame × World)
  | 0, _, _, _ => none
  | n + 1, fr, cs, w =>
    if stop fr then some (fr, cs, w) else
    match callAt P is fr w with
    | some (g, args, w') =>
      match memo g args with
      | some v => runM P is memo stop n (fr.finish v) cs w'
      | none => none
    | none =>
      match stepF P fr cs w with
      | some (fr', cs', w') => runM P is memo stop n fr' cs' w'
      | none => none

/-- n steps -/
def runF (P : Program) : Nat → Frame → List Frame → World → Option (Frame × List Frame × World)
  | 0, fr, cs, w => some (fr, cs, w)
  | n + 1, fr, cs, w => match stepF P fr cs w with
    | some (fr', cs', w') => runF P n fr' cs' w'
    | none => none

theorem runF_steps {P : Program} (n : Nat) {fr fr' : Frame} {cs cs' : List Frame} {w w' : World} (h : runF P n fr cs w = some (fr', cs', w')) :
    Steps P (lone fr cs w) (lone fr' cs' w') := by
  induction n generalizing fr cs w with
  | zero => cases h; exact Steps.refl _ _
  | succ n ih =>
    simp only [runF] at h
    split at h
    · rename_i f c w1 he
      exact Steps.head (stepF_step he) (ih h)
    · cases h

/-- the frame that a run ends in -/
def topOf : Option (Frame × List Frame × World) → Frame
  | some (fr, _, _) => fr
  | none => default

/-- slots: all empty but these -/
def slots (n : Nat) (l : List (Nat × Value)) : Array Value := l.foldl (fun a x => a.setIfInBounds x.1 x.2) (Array.replicate n undef)

/-- what is known of calls -/
def Known (P : Program) (memo : FuncId → Array Value → Option Value) : Prop :=
  ∀ g args v, memo g args = some v → ∀ w, Calls P g args w fun e w' => e = .returned v ∧ w = w'

theorem known_none (P : Program) : Known P (fun _ _ => none) := fun _ _ _ h => by cases h

theorem runM_steps {P : Program} {is : FuncId → Bool} {memo : FuncId → Array Value → Option Value} {stop : Frame → Bool} (hk : Known P memo) (n : Nat)
    {fr fr' : Frame} {cs cs' : List Frame} {w w' : World} (h : runM P is memo stop n fr cs w = some (fr', cs', w')) :
    Steps P (lone fr cs w) (lone fr' cs' w') := by
  induction n generalizing fr cs w with
  | zero => cases h
  | succ n ih =>
    simp only [runM] at h
    split at h
    · cases h; exact Steps.refl _ _
    · split at h
      · rename_i g args w1 hc
        split at h
        · rename_i v hv
          obtain ⟨e, w2, fr2, ⟨he, hw⟩, hcomes, hfn, hl⟩ := hk g args v hv w1 (fr :: cs)
          subst he
          subst hw
          exact Steps.head (callAt_step cs hc) (Steps.trans hcomes (Steps.head (step_leave_returned hl) (ih h)))
        · cases h
      · split at h
        · rename_i fr1 cs1 w1 hs
          exact Steps.head (stepF_step hs) (ih h)
        · cases h

/-- where a function's call is over -/
def over (f : FuncId) (fr : Frame) : Bool := fr.fn == f && fr.mode matches .returning

/-- what a call hands back, from a frame of it on -/
def outM (P : Program) (is : FuncId → Bool) (memo : FuncId → Array Value → Option Value) (n : Nat) (f : FuncId) (fr : Frame) (cs : List Frame) (w : World) :
    Option (Value × List Frame × World × World) :=
  match runM P is memo (over f) n fr cs w with
  | some (fr, cs', w') =>
    match fr.mode, fr.defers, fr.kind, fr.fn == f, P.funcs[fr.fn]? with
    | .returning, [], .normal, true, some fn =>
      match (results fn fr.tmps).run P w' with
      | .ok v w'' => some (v, cs', w', w'')
      | .halt _ _ => none
    | _, _, _, _, _ => none
  | none => none

theorem calls_from {P : Program} {is : FuncId → Bool} {memo : FuncId → Array Value → Option Value} (hk : Known P memo) (n : Nat) {f : FuncId} {args : Array Value}
    {w : World} {v : Value} (fr0 : Frame) (h0 : ∀ cs, Steps P (lone (Frame.enter P f args .normal) cs w) (lone fr0 cs w))
    (h : ∀ cs, outM P is memo n f fr0 cs w = some (v, cs, w, w)) : Calls P f args w fun e w' => e = .returned v ∧ w = w' := by
  intro cs
  have h := h cs
  unfold outM at h
  split at h
  · rename_i fr cs' w' hr
    split at h
    · rename_i fn hm hd hkd hf hfn
      split at h
      · rename_i v' w'' he
        cases h
        exact ⟨.returned v, _, fr, ⟨rfl, rfl⟩, Steps.trans (h0 cs) (runM_steps hk n hr), by simpa using hf, hm, hd, hkd, fn, hfn, he⟩
      · cases h
    · cases h
  · cases h

theorem calls_of {P : Program} (is : FuncId → Bool) {memo : FuncId → Array Value → Option Value} (hk : Known P memo) (n : Nat) {f : FuncId} {args : Array Value}
    {w : World} {v : Value} (h : ∀ cs, outM P is memo n f (Frame.enter P f args .normal) cs w = some (v, cs, w, w)) :
    Calls P f args w fun e w' => e = .returned v ∧ w = w' :=
  calls_from hk n _ (fun _ => Steps.refl _ _) h

end Go.Proofs.Ytjmfffgddmnkmac

namespace Go.Proofs.Ytjmfffgddmnkmac
open Go Go.RowKit

theorem abs_run (b : Nat) (w : World) : Calls Try.prog 81 #[.float .f64 b] w fun e w' => e = .returned (.float .f64 ((IntKind.u64.wrap ((BitVec.ofInt 64 (b : Int)) &&& ~~~ (BitVec.ofInt 64 9223372036854775808)).toNat).toNat)) ∧ w = w' :=
  calls_of (fun _ => false) (known_none _) 99 (fun cs => by kernel_rfl)

theorem abs_val (b : Nat) (h : b < 18446744073709551616) :
    (IntKind.u64.wrap ((BitVec.ofInt 64 (b : Int)) &&& ~~~ (BitVec.ofInt 64 9223372036854775808)).toNat).toNat = b % 9223372036854775808 := by
  have h1 : ~~~ (BitVec.ofInt 64 9223372036854775808) = BitVec.ofNat 64 9223372036854775807 := by decide
  have h2 : BitVec.ofInt 64 (b : Int) = BitVec.ofNat 64 b := BitVec.ofInt_natCast 64 b
  have h3 : b &&& 9223372036854775807 = b % 9223372036854775808 := Nat.and_two_pow_sub_one_eq_mod b 63
  rw [h1, h2, BitVec.toNat_and, BitVec.toNat_ofNat, BitVec.toNat_ofNat, show b % 2 ^ 64 = b from Nat.mod_eq_of_lt h, show 9223372036854775807 % 2 ^ 64 = 9223372036854775807 from rfl, h3, IntKind.wrap_u64]
  omega

theorem abs_any (b : Nat) (h : b < 18446744073709551616) (w : World) : Calls Try.prog 81 #[.float .f64 b] w fun e w' => e = .returned (.float .f64 (b % 9223372036854775808)) ∧ w = w' := by
  have := abs_run b w
  rwa [abs_val b h] at this

/-- a float less itself, where it is none -/
theorem run_sub_inf (x : Nat) (h : fin x = false) (w : World) : (binOp .sub 46 (.float .f32 x) (.float .f32 x)).run Try.prog w = .ok (.float .f32 (nan32 (w.tape w.drawn (.nanBits .f32 x x)))) w.drew := by
  have h' : FloatKind.f32.format.sub x x = none := sub_inf x h
  have e : (binOp .sub 46 (.float .f32 x) (.float .f32 x)).run Try.prog w = ((choose (.nanBits .f32 x x)).run Try.prog w).andThen fun y w' => .ok (.float .f32 y) w' := by
    simp [binOp, Op.floatArith, h']
  rw [e, run_choose_drew]
  rfl

/-- a float32 that is none, as a float64 -/
theorem run_conv_nan (x : Nat) (s : Bool) (t : Nat) (h : Ieee.single.read x = .nan s t) (w : World) : (convert 46 103 (.float .f32 x)).run Try.prog w = .ok (.float .f64 (nan64 (w.tape w.drawn (.nanConv .f64 x)))) w.drew := by
  have h' : FloatKind.f32.decode x = .nan s t := h
  have e : (convert 46 103 (.float .f32 x)).run Try.prog w = ((choose (.nanConv .f64 x)).run Try.prog w).andThen fun y w' => .ok (.float .f64 y) w' := by
    simp [convert, run_underlying Try.underlying46, run_underlying Try.underlying103, Conv.floatToFloat, h']
  rw [e, run_choose_drew]
  rfl
theorem run_conv_inf (x : Nat) (s : Bool) (h : Ieee.single.read x = .infinity s) (w : World) : (convert 46 103 (.float .f32 x)).run Try.prog w = .ok (.float .f64 (Ieee.double.write (.infinity s))) w := by
  have h' : FloatKind.f32.decode x = .infinity s := h
  exact run_convert_float_float w 46 103 .f32 .f64 x _ (by rw [Try.underlying46]; rfl) Try.underlying103 (by simp [floatToFloatBits, h']; rfl)
theorem run_conv_fin (x : Nat) (h : fin x = true) (w : World) : (convert 46 103 (.float .f32 x)).run Try.prog w = .ok (.float .f64 (conv x)) w := by
  obtain ⟨s, m, p, hr, _⟩ := fin_read x h
  have h' : FloatKind.f32.decode x = .number s m p := hr
  have hi := (conv_finite x h).1
  have hc : conv x = FloatKind.f64.encode (.number s m p) := by unfold conv; rw [hr]; rfl
  have hi' : (FloatKind.f64.decode (FloatKind.f64.encode (.number s m p))).isInfinity = false := by rw [← hc]; exact hi
  exact run_convert_float_float w 46 103 .f32 .f64 x _ (by rw [Try.underlying46]; rfl) Try.underlying103 (by simp [floatToFloatBits, h', hi', hc])

theorem fine_yes (x : Nat) (h : fin x = true) (w : World) : Calls Try.prog 90 #[.float .f32 x] w fun e w' => e = .returned (.bool true) ∧ ∃ n, w' = w.drewN n := by
  have h1 := fun w => run_float_arith (P := Try.prog) w .sub 46 .f32 x x 0 (sub_fin x h)
  have h2 : (FloatKind.f32.format.order 0 0 == some .eq) = true := by decide
  clear h
  go_enter Try.func90, Try.ntmps90
  go_wp2
  go_ret
  exact ⟨rfl, 0, rfl⟩

theorem fine_no (x : Nat) (h : fin x = false) (w : World) : Calls Try.prog 90 #[.float .f32 x] w fun e w' => e = .returned (.bool false) ∧ ∃ n, w' = w.drewN n := by
  have h1 := run_sub_inf x h w
  obtain ⟨y, hy⟩ : ∃ y, y = nan32 (w.tape w.drawn (.nanBits .f32 x x)) := ⟨_, rfl⟩
  have h2 : (FloatKind.f32.format.order y 0 == some .eq) = false := by
    rw [hy]
    rw [show FloatKind.f32.format.order (nan32 (w.tape w.drawn (.nanBits .f32 x x))) 0 = none from order_nan32 _ _]
    rfl
  rw [← hy] at h1
  clear h hy
  go_enter Try.func90, Try.ntmps90
  go_wp2
  go_ret
  exact ⟨rfl, 1, rfl⟩

theorem fine_any (x : Nat) (w : World) : Calls Try.prog 90 #[.float .f32 x] w fun e w' => e = .returned (.bool (fin x)) ∧ ∃ n, w' = w.drewN n := by
  cases h : fin x
  · exact fine_no x h w
  · exact fine_yes x h w

theorem finite_yes (x : Nat) (h : fin x = true) (w : World) : Calls Try.prog 69 #[.float .f32 x] w fun e w' => e = .returned (.bool true) ∧ ∃ n, w' = w.drewN n := by
  have h1 := run_conv_fin x h
  have h2 := max_fin x h
  have h3 := Lib.hid (abs_any (conv x) (conv_finite x h).2)
  generalize conv x = y at *
  have h2' : (FloatKind.f64.format.order (y % 9223372036854775808) 5183643170566569984 == some .lt || FloatKind.f64.format.order (y % 9223372036854775808) 5183643170566569984 == some .eq) = true := h2
  obtain ⟨z, hz⟩ : ∃ z, z = y % 9223372036854775808 := ⟨_, rfl⟩
  rw [← hz] at h2' h3
  clear h2 hz h
  go_enter Try.func69, Try.ntmps69
  go_wp2_with (go_at_call 81; refine (h3.out _).mono ?_; rintro e w' ⟨rfl, rfl⟩)
  go_ret
  exact ⟨rfl, 0, rfl⟩

theorem finite_no (x : Nat) (h : fin x = false) (w : World) : Calls Try.prog 69 #[.float .f32 x] w fun e w' => e = .returned (.bool false) ∧ ∃ n, w' = w.drewN n := by
  rcases inf_read x h with ⟨s, hs⟩ | ⟨s, t, hs⟩
  · have h1 := run_conv_inf x s hs
    have h2 := max_inf s
    have h3 := Lib.hid (abs_any (Ieee.double.write (.infinity s)) (by cases s <;> decide))
    generalize Ieee.double.write (.infinity s) = y at *
    obtain ⟨z, hz⟩ : ∃ z, z = y % 9223372036854775808 := ⟨_, rfl⟩
    rw [← hz] at h2 h3
    have h2' : (FloatKind.f64.format.order z 5183643170566569984 == some .lt || FloatKind.f64.format.order z 5183643170566569984 == some .eq) = false := h2
    clear h2 hz h hs
    go_enter Try.func69, Try.ntmps69
    go_wp2_with (go_at_call 81; refine (h3.out _).mono ?_; rintro e w' ⟨rfl, rfl⟩)
    go_ret
    exact ⟨rfl, 0, rfl⟩
  · have h1 := run_conv_nan x s t hs w
    obtain ⟨q, hq⟩ : ∃ q, q = w.tape w.drawn (.nanConv .f64 x) := ⟨_, rfl⟩
    rw [← hq] at h1
    have h2 : (FloatKind.f64.format.order (nan64 q % 9223372036854775808) 5183643170566569984 == some .lt || FloatKind.f64.format.order (nan64 q % 9223372036854775808) 5183643170566569984 == some .eq) = false := by
      rw [show FloatKind.f64.format.order (nan64 q % 9223372036854775808) 5183643170566569984 = none from order_nan64 _ _]
      rfl
    have h3 := Lib.hid (abs_any (nan64 q) (nan64_mod q).2)
    obtain ⟨z, hz⟩ : ∃ z, z = nan64 q % 9223372036854775808 := ⟨_, rfl⟩
    rw [← hz] at h2 h3
    clear hz hq h hs
    generalize nan64 q = y at *
    go_enter Try.func69, Try.ntmps69
    go_wp2_with (go_at_call 81; refine (h3.out _).mono ?_; rintro e w' ⟨rfl, rfl⟩)
    go_ret
    exact ⟨rfl, 1, rfl⟩

theorem finite_any (x : Nat) (w : World) : Calls Try.prog 69 #[.float .f32 x] w fun e w' => e = .returned (.bool (fin x)) ∧ ∃ n, w' = w.drewN n := by
  cases h : fin x
  · exact finite_no x h w
  · exact finite_yes x h w

/-- a side -/
def side (n : Int) : Bool := n == 1 || n == 2 || n == 4 || n == 8

end Go.Proofs.Ytjmfffgddmnkmac
