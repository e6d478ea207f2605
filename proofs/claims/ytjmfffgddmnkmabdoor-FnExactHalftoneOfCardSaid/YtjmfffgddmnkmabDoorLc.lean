/- Channels in the ordinary walk: a receive, a send, and a close that is deferred. Condition: what each law says of the channel. -/
import Derived.Test.YtjmfffgddmnkmabDoorNh
import Derived.Defers
import Derived.Tactics2
namespace Go.Proofs.YtjmfffgddmnkmabDoor
open Go Go.RowKit Go.Conc

section
variable {P : Program} {ops : Array Oper} {Q : Exit → Act → World → Prop} {a : Act} {w : World}

/-- a region's code from some operations on -/
def OpsTo (P : Program) (ops : Array Oper) (Q : Exit → Act → World → Prop) (l : List Nat) (a : Act) (w : World) : Prop :=
  ∀ (b : Frame) (k : List Item) (cs : List Frame), ∃ e a' w', Q e a' w' ∧ Arrives P (lone (b.at a (.inRegion ops l :: k)) cs w) b k cs e a' w'
theorem opsTo_of {l : List Nat} (h : wpOps P ops Q l a w) : OpsTo P ops Q l a w := wp_ops l a w h
theorem region_to {id : Nat} (h : OpsTo P ops Q (List.range ops.size) a w) : (Code.region id ops false).wp P Q a w :=
  fun b k cs => let ⟨e, a', w', q, r⟩ := h b k cs; ⟨e, a', w', q, .of_steps (.one step_region) r⟩

theorem fin_at {i : Nat} {rest : List Nat} {o : Oper} (ho : ops[i]? = some o) (b : Frame) (k : List Item) (v : Value) : (b.at a (.inRegion ops (i :: rest) :: k)).finish v = b.at (a.put o.dst v) (.inRegion ops rest :: k) := by
  rw [Frame.finish_at, ho]; rfl

theorem opsTo_value {i : Nat} {rest : List Nat} {o : Oper} {v : Value} {w' : World} (ho : ops[i]? = some o) (hw : Region.wanted o (yielded ops a.tmps) = true) (hr : (execOp a.eval o).run P w = .ok (.value v) w')
    (h : OpsTo P ops Q rest (a.put o.dst v) w') : OpsTo P ops Q (i :: rest) a w := by
  intro b k cs
  obtain ⟨e, a', w'', hq, harr⟩ := h b k cs
  refine ⟨e, a', w'', hq, .of_steps (.one (step_lone_go ?_)) harr⟩
  rw [stepG_op ho hw, ← fin_at ho]; simp [stepG.apply, hr]

theorem stepG_comm_any {i : Nat} {rest : List Nat} {o : Oper} {cases : Array CommCase} {blocking : Bool} {shape : CommShape} {w' : World} (ho : ops[i]? = some o) (hw : Region.wanted o (yielded ops a.tmps) = true)
    (hr : (execOp a.eval o).run P w = .ok (.comm cases blocking shape) w') (b : Frame) (k : List Item) (cs : List Frame) :
    ∃ es, stepG P true (G (b.at a (.inRegion ops (i :: rest) :: k)) cs) w = .comm (G (b.at a (.inRegion ops (i :: rest) :: k)) cs) cases blocking shape w' es := by
  by_cases hk : b.kind = .early
  · have hk' : (b.kind == CallKind.early) = true := by rw [hk]; rfl
    refine ⟨seen P b.fn #[], ?_⟩
    rw [stepG_oper ho hw]
    simp [stepG.apply, hr, G, Frame.at, hk', GStep.after, seen]
  · exact ⟨_, stepG_comm ho hw hk hr⟩

theorem opsTo_recv_buf {i : Nat} {rest : List Nat} {o : Oper} {z : Value} {c cap s r : Nat} {buf : Array Value} {closed tm : Bool} (ho : ops[i]? = some o) (hw : Region.wanted o (yielded ops a.tmps) = true)
    (hr : (execOp a.eval o).run P w = .ok (.comm #[rcase c z] true (.recv false)) w) (hc : w.heap[c]? = some (.chan cap buf closed s r tm)) (hsome : 0 < buf.size)
    (h : OpsTo P ops Q rest (a.put o.dst (buf.getD 0 undef)) (w.setChan c cap (buf.extract 1 buf.size) closed s (r + 1) tm)) : OpsTo P ops Q (i :: rest) a w := by
  intro b k cs
  obtain ⟨e, a', w'', hq, harr⟩ := h b k cs
  obtain ⟨es, hg⟩ := stepG_comm_any ho hw hr b k cs
  have hs := step_lone_recv_buf false hg hc hsome
  rw [fin_at ho] at hs
  exact ⟨e, a', w'', hq, .of_steps (.one hs) harr⟩

theorem opsTo_recv_shut {i : Nat} {rest : List Nat} {o : Oper} {z : Value} {c cap s r : Nat} {tm : Bool} (ho : ops[i]? = some o) (hw : Region.wanted o (yielded ops a.tmps) = true)
    (hr : (execOp a.eval o).run P w = .ok (.comm #[rcase c z] true (.recv false)) w) (hc : w.heap[c]? = some (.chan cap #[] true s r tm))
    (h : OpsTo P ops Q rest (a.put o.dst z) w) : OpsTo P ops Q (i :: rest) a w := by
  intro b k cs
  obtain ⟨e, a', w'', hq, harr⟩ := h b k cs
  obtain ⟨es, hg⟩ := stepG_comm_any ho hw hr b k cs
  have hs := step_lone_recv_shut false hg hc
  rw [fin_at ho] at hs
  exact ⟨e, a', w'', hq, .of_steps (.one hs) harr⟩

theorem opsTo_send {i : Nat} {rest : List Nat} {o : Oper} {v z' : Value} {c cap s r : Nat} {buf : Array Value} {tm : Bool} (ho : ops[i]? = some o) (hw : Region.wanted o (yielded ops a.tmps) = true)
    (hr : (execOp a.eval o).run P w = .ok (.comm #[scase c v z'] true .send) w) (hc : w.heap[c]? = some (.chan cap buf false s r tm)) (hroom : buf.size < cap)
    (h : OpsTo P ops Q rest (a.put o.dst undef) (w.setChan c cap (buf.push v) false (s + 1) r tm)) : OpsTo P ops Q (i :: rest) a w := by
  intro b k cs
  obtain ⟨e, a', w'', hq, harr⟩ := h b k cs
  obtain ⟨es, hg⟩ := stepG_comm_any ho hw hr b k cs
  have hs := step_lone_send_room hg hc hroom
  rw [fin_at ho] at hs
  exact ⟨e, a', w'', hq, .of_steps (.one hs) harr⟩
end

/-! ### a close that is deferred -/
/-- a function's end, one call of a builtin being deferred -/
def CloseAt (P : Program) (fn : Func) (d : Deferred) (R : Ending → World → Prop) : Exit → Act → World → Prop
  | .normal, a, w | .ret, a, w => a.defers = [d] ∧ ∃ v' w', (invoke d.target d.args).run P w = .ok (.value v') w' ∧ ∃ v, (results fn a.tmps).run P w' = .ok v w' ∧ R (.returned v) w'
  | .panic chain, a, w => a.defers = [d] ∧ ∃ v' w', (invoke d.target d.args).run P w = .ok (.value v') w' ∧ R (.panicked chain) w'
  | _, _, _ => False

section
variable {P : Program}
theorem step_close {fr : Frame} {cs : List Frame} {w w' : World} {d : Deferred} {v : Value} (hm : fr.mode ≠ .run) (hd : fr.defers = [d]) {bt : Builtin} {ats : Array TypeId} {ty : TypeId} {co : Array Bool} (ht : d.target = .builtin bt ats ty co)
    (hi : (invoke d.target d.args).run P w = .ok (.value v) w') : step P (lone fr cs w) = .next (lone { fr with defers := [] } cs w') := by
  obtain ⟨t, a⟩ := d
  simp only at ht hi
  subst ht
  refine step_lone_go ?_
  cases hmode : fr.mode with
  | run => exact absurd hmode hm
  | returning => simp [stepG, unwind, callDeferred, hmode, hd, hi]
  | panicking chain => simp [stepG, unwind, callDeferred, hmode, hd, hi]

theorem calls_of_wp_close {f : FuncId} {fn : Func} {c : Code} {args : Array Value} {w : World} {R : Ending → World → Prop} {d : Deferred} {bt : Builtin} {ats : Array TypeId} {ty : TypeId} {co : Array Bool} (ht : d.target = .builtin bt ats ty co)
    (hf : P.funcs[f]? = some fn) (hb : fn.body = some c)
    (h : c.wp P (CloseAt P fn d R) { tmps := args ++ Array.replicate (fn.ntmps - args.size) undef, defers := [] } w) : Calls P f args w R := by
  intro cs
  let b : Frame := { (default : Frame) with fn := f, kind := .normal }
  have henter : Frame.enter P f args .normal = b.at { tmps := args ++ Array.replicate (fn.ntmps - args.size) undef, defers := [] } [.code c] := by
    simp [Frame.enter, Frame.at, hf, hb, b]
  obtain ⟨e, a', w', hq, harr⟩ := h b [] cs
  rw [← henter] at harr
  cases e with
  | normal =>
    obtain ⟨hd, v', w'', hi, v, hr, hR⟩ := hq
    refine ⟨.returned v, w'', { { b.at a' [] with mode := .returning } with defers := [] }, hR, Steps.trans (Steps.trans harr (.one step_end)) (.one (step_close (by simp) hd ht hi)), rfl, rfl, rfl, rfl, fn, hf, hr⟩
  | ret =>
    obtain ⟨hd, v', w'', hi, v, hr, hR⟩ := hq
    obtain ⟨todo, hs⟩ := harr
    exact ⟨.returned v, w'', { { b.at a' todo with mode := .returning } with defers := [] }, hR, Steps.trans hs (.one (step_close (by simp) hd ht hi)), rfl, rfl, rfl, rfl, fn, hf, hr⟩
  | panic chain =>
    obtain ⟨hd, v', w'', hi, hR⟩ := hq
    obtain ⟨todo, hs⟩ := harr
    exact ⟨.panicked chain, w'', { { b.at a' todo with mode := .panicking chain } with defers := [] }, hR, Steps.trans hs (.one (step_close (by simp) hd ht hi)), rfl, rfl, rfl, fn, hf⟩
  | exit id => exact hq.elim
  | goto l => exact hq.elim
  | outgrown => exact hq.elim
end
end Go.Proofs.YtjmfffgddmnkmabDoor
