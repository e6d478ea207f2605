/- A call whose run the kernel can reckon out by itself, in any world and under any callers, returns what that run gives; calls whose answers are known already are taken as known. Condition: none. -/
import Derived.Calls
import Derived.KernelRfl
namespace Go.Proofs.Ytjmfffgddmnkmab
open Go

/-- one step of the lone goroutine, or nothing -/
def stepF (P : Program) (fr : Frame) (cs : List Frame) (w : World) : Option (Frame × List Frame × World) :=
  match (stepG P true { frame := fr, callers := cs, status := .running, dying := none } w).bare with
  | .go { frame := fr', callers := cs', status := .running, dying := none, offers := none } w' _ => some (fr', cs', w')
  | _ => none

theorem stepF_step {P : Program} {fr fr' : Frame} {cs cs' : List Frame} {w w' : World} (h : stepF P fr cs w = some (fr', cs', w')) :
    step P (lone fr cs w) = .next (lone fr' cs' w') := by
  unfold stepF at h
  split at h
  · rename_i f c w1 es he
    cases h
    refine step_lone_go ?_
    generalize stepG P true { frame := fr, callers := cs, status := .running, dying := none } w = s at he
    cases s <;> simp at he ⊢
    obtain ⟨h1, h2, _⟩ := he
    exact ⟨h1, h2⟩
  · cases h

/-- the call that stands next, if it is of one of the functions 'is' -/
def callAt (P : Program) (is : FuncId → Bool) (fr : Frame) (w : World) : Option (FuncId × Array Value × World) :=
  match fr.mode, fr.roundOf, fr.todo with
  | .run, none, .inRegion ops (i :: _) :: _ =>
    match ops[i]? with
    | some o =>
      match o.op with
      | .call { callee := .value (.func g), .. } =>
        if is g && Region.wanted o (yielded ops fr.tmps) then
          match (execOp fr.eval o).run P w with
          | .ok (.enter g' args) w' => some (g', args, w')
          | _ => none
        else none
      | _ => none
    | none => none
  | _, _, _ => none

theorem callAt_step {P : Program} {is : FuncId → Bool} {fr : Frame} {w w' : World} {g : FuncId} {args : Array Value} (cs : List Frame)
    (h : callAt P is fr w = some (g, args, w')) : step P (lone fr cs w) = .next (lone (Frame.enter P g args .normal) (fr :: cs) w') := by
  unfold callAt at h
  split at h
  · rename_i ops i rest k hm hr ht
    split at h
    · rename_i o ho
      split at h
      · rename_i op c g0 at0 hop
        split at h
        · rename_i hw
          simp only [Bool.and_eq_true] at hw
          split at h
          · rename_i g1 args1 w1 hrun
            cases h
            refine step_lone_go ?_
            have hrunT := Sem.runT_fst P (execOp fr.eval o) w #[]
            rw [hrun] at hrunT
            cases fr with
            | mk fn tmps todo defers mode kind roundOf =>
              simp only at hm hr ht hw
              subst hm hr ht
              simp only [stepG, stepG.exec, stepG.oper, Frame.oper?, ho, hw.2, Option.map_some, Option.getD_some, if_true, stepG.apply]
              generalize hR : Sem.runT P (execOp (Frame.eval _) o) w #[] = R at *
              obtain ⟨r, es⟩ := R
              simp only at hrunT
              subst hrunT
              simp [GStep.after, GStep.bare]
          · cases h
        · cases h
      · cases h
    · cases h
  · cases h

/-- steps, as many as the fuel lets, till 'stop' says so; a call of one of the functions 'is' is taken as 'memo' knows it -/
def runM (P : Program) (is : FuncId → Bool) (memo : FuncId → Array Value → Option Value) (stop : Frame → Bool) :
    Nat → Frame → List Frame → World → Option (Frame × List Frame × World)
  | 0, _, _, _ => none
  | n + 1, fr, cs, w =>
    if stop fr then some (fr, cs, w) else
    match callAt P is fr w with
    | some (g, args, w') =>
      match memo g args with
      | some v => runM P is memo stop n (fr.finish v) cs w'
      | none => none
    | none =>
      match stepF P fr cs w with
      | some (fr', cs', w') => runM P is memo stop n fr' cs' w'
      | none => none

/-- n steps -/
def runF (P : Program) : Nat → Frame → List Frame → World → Option (Frame × List Frame × World)
  | 0, fr, cs, w => some (fr, cs, w)
  | n + 1, fr, cs, w => match stepF P fr cs w with
    | some (fr', cs', w') => runF P n fr' cs' w'
    | none => none

theorem runF_steps {P : Program} (n : Nat) {fr fr' : Frame} {cs cs' : List Frame} {w w' : World} (h : runF P n fr cs w = some (fr', cs', w')) :
    Steps P (lone fr cs w) (lone fr' cs' w') := by
  induction n generalizing fr cs w with
  | zero => cases h; exact Steps.refl _ _
  | succ n ih =>
    simp only [runF] at h
    split at h
    · rename_i f c w1 he
      exact Steps.head (stepF_step he) (ih h)
    · cases h

/-- the frame that a run ends in -/
def topOf : Option (Frame × List Frame × World) → Frame
  | some (fr, _, _) => fr
  | none => default

/-- slots: all empty but these -/
def slots (n : Nat) (l : List (Nat × Value)) : Array Value := l.foldl (fun a x => a.setIfInBounds x.1 x.2) (Array.replicate n undef)

/-- what is known of calls -/
def Known (P : Program) (memo : FuncId → Array Value → Option Value) : Prop :=
  ∀ g args v, memo g args = some v → ∀ w, Calls P g args w fun e w' => e = .returned v ∧ w = w'

theorem known_none (P : Program) : Known P (fun _ _ => none) := fun _ _ _ h => by cases h

theorem runM_steps {P : Program} {is : FuncId → Bool} {memo : FuncId → Array Value → Option Value} {stop : Frame → Bool} (hk : Known P memo) (n : Nat)
    {fr fr' : Frame} {cs cs' : List Frame} {w w' : World} (h : runM P is memo stop n fr cs w = some (fr', cs', w')) :
    Steps P (lone fr cs w) (lone fr' cs' w') := by
  induction n generalizing fr cs w with
  | zero => cases h
  | succ n ih =>
    simp only [runM] at h
    split at h
    · cases h; exact Steps.refl _ _
    · split at h
      · rename_i g args w1 hc
        split at h
        · rename_i v hv
          obtain ⟨e, w2, fr2, ⟨he, hw⟩, hcomes, hfn, hl⟩ := hk g args v hv w1 (fr :: cs)
          subst he
          subst hw
          exact Steps.head (callAt_step cs hc) (Steps.trans hcomes (Steps.head (step_leave_returned hl) (ih h)))
        · cases h
      · split at h
        · rename_i fr1 cs1 w1 hs
          exact Steps.head (stepF_step hs) (ih h)
        · cases h

/-- where a function's call is over -/
def over (f : FuncId) (fr : Frame) : Bool := fr.fn == f && fr.mode matches .returning

/-- what a call hands back, from a frame of it on -/
def outM (P : Program) (is : FuncId → Bool) (memo : FuncId → Array Value → Option Value) (n : Nat) (f : FuncId) (fr : Frame) (cs : List Frame) (w : World) :
    Option (Value × List Frame × World × World) :=
  match runM P is memo (over f) n fr cs w with
  | some (fr, cs', w') =>
    match fr.mode, fr.defers, fr.kind, fr.fn == f, P.funcs[fr.fn]? with
    | .returning, [], .normal, true, some fn =>
      match (results fn fr.tmps).run P w' with
      | .ok v w'' => some (v, cs', w', w'')
      | .halt _ _ => none
    | _, _, _, _, _ => none
  | none => none

theorem calls_from {P : Program} {is : FuncId → Bool} {memo : FuncId → Array Value → Option Value} (hk : Known P memo) (n : Nat) {f : FuncId} {args : Array Value}
    {w : World} {v : Value} (fr0 : Frame) (h0 : ∀ cs, Steps P (lone (Frame.enter P f args .normal) cs w) (lone fr0 cs w))
    (h : ∀ cs, outM P is memo n f fr0 cs w = some (v, cs, w, w)) : Calls P f args w fun e w' => e = .returned v ∧ w = w' := by
  intro cs
  have h := h cs
  unfold outM at h
  split at h
  · rename_i fr cs' w' hr
    split at h
    · rename_i fn hm hd hkd hf hfn
      split at h
      · rename_i v' w'' he
        cases h
        exact ⟨.returned v, _, fr, ⟨rfl, rfl⟩, Steps.trans (h0 cs) (runM_steps hk n hr), by simpa using hf, hm, hd, hkd, fn, hfn, he⟩
      · cases h
    · cases h
  · cases h

theorem calls_of {P : Program} (is : FuncId → Bool) {memo : FuncId → Array Value → Option Value} (hk : Known P memo) (n : Nat) {f : FuncId} {args : Array Value}
    {w : World} {v : Value} (h : ∀ cs, outM P is memo n f (Frame.enter P f args .normal) cs w = some (v, cs, w, w)) :
    Calls P f args w fun e w' => e = .returned v ∧ w = w' :=
  calls_from hk n _ (fun _ => Steps.refl _ _) h

end Go.Proofs.Ytjmfffgddmnkmab
