/- A number in a map keyed by places is looked at, its entry is made ready, and it is stored, in the orders that Go allows. Condition: a map that the call owns. -/
import Derived.Test.YtjmfffgddmnkmabCk
namespace Go.Proofs.Ytjmfffgddmnkmab
open Go Go.RowKit Go.Maps Go.ChangeMaps
open Go.WideElems (Fit entry_then_store set_self)

/-- block b is a map from places to numbers, of at most n, that reads as D -/
def Cnt (w : World) (b n : Nat) (D : DataW Unit) : Prop := w.ownsMap Try.prog 109 (plainElem (H := Unit) Try.prog 2) b n D

theorem zeroE (w : World) : (zeroValue 2).run Try.prog w = .ok (.int .i64 0) w := by kernel_rfl

theorem Cnt.lt {w : World} {b n : Nat} {D : DataW Unit} (h : Cnt w b n D) : b < w.heap.size := World.ownsMap.lt h
theorem Cnt.isMap {w : World} {b n : Nat} {D : DataW Unit} (h : Cnt w b n D) : IsMap D := by
  obtain ⟨es, clock, hb, F, hs, hD⟩ := h
  exact ⟨_, hD⟩
theorem Cnt.same {w u : World} {b n : Nat} {D : DataW Unit} (h : Cnt w b n D) (e : u.heap[b]? = w.heap[b]?) : Cnt u b n D := by
  obtain ⟨es, clock, hb, F, hs, hD⟩ := h
  exact ⟨es, clock, e.trans hb, F, hs, hD⟩
theorem Cnt.below {C : Nat} {w u : World} {b n : Nat} {D : DataW Unit} (h : Cnt w b n D) (k : Below C w u) (hC : w.heap.size ≤ C) : Cnt u b n D := by
  have := h.lt
  exact h.same (k.block b (by omega))
theorem Cnt.look {w : World} {b n : Nat} {D : DataW Unit} (h : Cnt w b n D) {key : Value} {kl : Lit} (hk : keyOf Try.prog 109 key = some kl) :
    ∃ c, (Instr.lookup 113 (.map (some b)) key false).run Try.prog w = .ok (.int .i64 c) w ∧ D.atKey kl (.lit (.int .i64 0)) = .lit (.int .i64 c) := by
  obtain ⟨c, h1, h2, _⟩ := World.ownsMap.lookup_int h keyedPl Try.underlying113 Try.underlying2 (zeroE w) hk
  exact ⟨c, h1, h2⟩

theorem modify_same {es : Array MapEntry} {j : Nat} {e0 : MapEntry} (h : es.toList[j]? = some e0) : es.modify j (fun e => { e with key := e0.key }) = es := by
  apply Array.ext'
  rw [Array.toList_modify, modify_eq_set _ _ _ _ h]
  exact set_self _ _ _ h

/-- an entry is made ready: what may be asked and done behind it -/
theorem Cnt.entry {w : World} {b n : Nat} {D : DataW Unit} (h : Cnt w b n D) (hn : n < maxLen) {key : Value} {kl : Lit} (hk : keyOf Try.prog 109 key = some kl) :
    ∃ v0 st w2, (Instr.mapEntry 113 (.map (some b)) key).run Try.prog w = .ok (.tuple #[v0, st]) w2 ∧ w.grownBy w2 (some b) ∧ w2.heap.size = w.heap.size ∧
      (∀ w3 : World, w3.heap[b]? = w2.heap[b]? → ∃ c, (Instr.lookup 113 (.map (some b)) key false).run Try.prog w3 = .ok (.int .i64 c) w3 ∧ D.atKey kl (.lit (.int .i64 0)) = .lit (.int .i64 c)) ∧
      (∀ (w3 : World) (x : Int), w3.heap[b]? = w2.heap[b]? → (Lit.int .i64 x).wf = true → ∃ w4, (Instr.entryStore 113 (.map (some b)) st (.int .i64 x)).run Try.prog w3 = .ok () w4 ∧ Cnt w4 b (n + 1) (D.put kl (.lit (.int .i64 x))) ∧ w3.grownBy w4 (some b) ∧ w4.heap.size = w3.heap.size) := by
  have ht := Try.underlying113
  have he := Try.underlying2
  have hM := h.isMap
  obtain ⟨c, hc1, hc2⟩ := h.look hk
  have h0 := h
  obtain ⟨es, clock, hb, F, hs, hD⟩ := h
  obtain ⟨v0, st, es1, clock1, hrun, _, hst⟩ := entry_then_store lawPl ht zeroE hb F hk
  have turned : ∀ (u : World) (x : Array MapEntry) (y : Nat) (o' : Obj), u.heap[b]? = some (.map x y) → u.grownBy (setBlock u b o') (some b) ∧ (setBlock u b o').heap.size = u.heap.size := fun u x y o' hu =>
    ⟨⟨rfl, rfl, rfl, by simp [setBlock], fun i _ hi => heap_setBlock_other hu _ (fun e => hi (by rw [e]))⟩, by simp [setBlock]⟩
  refine ⟨v0, goInt st, setBlock w b (.map es1 clock1), hrun, (turned w _ _ _ hb).1, (turned w _ _ _ hb).2, ?_, ?_⟩
  · intro w3 hw3
    rw [heap_setBlock_same hb] at hw3
    rcases keyedPl.find w hk es.toList F.keys with ⟨h1, h2⟩ | ⟨j, e0, h1, h2, h3⟩
    · have hrun2 : (Instr.mapEntry 113 (.map (some b)) key).run Try.prog w = .ok (.tuple #[.int .i64 0, goInt clock]) (setBlock w b (.map (es.push ⟨key, .int .i64 0, clock⟩) (clock + 1))) := by
        simp [Instr.mapEntry, run_underlying ht, MapKept.run_getObj_map hb, keyedPl.check w false hk, h1, MapKept.run_setObj_map _ hb, Result.andThen, setBlock]
      have hupd : (Instr.mapUpdate 113 (.map (some b)) key (.int .i64 0)).run Try.prog w = .ok () (setBlock w b (.map (es.push ⟨key, .int .i64 0, clock⟩) (clock + 1))) := by
        simp [Instr.mapUpdate, run_underlying ht, MapKept.run_getObj_map hb, keyedPl.check w false hk, h1, MapKept.run_setObj_map _ hb, Result.andThen, setBlock]
      have hlook : (Instr.lookup 113 (.map (some b)) key false).run Try.prog w = .ok (.int .i64 0) w := by
        simp [Instr.lookup, run_underlying ht, MapKept.run_getObj_map hb, keyedPl.check w _ hk, h1, Result.andThen]
      have e := hrun.symm.trans hrun2
      injection e with _ e2
      have e3 := congrArg (fun u : World => u.heap[b]?) e2
      simp only [heap_setBlock_same hb] at e3
      rw [e3] at hw3
      obtain ⟨w', hr3, hown, _⟩ := World.ownsMap.update h0 keyedPl ht hn hk (plainElem_int (H := Unit) he (show (Lit.int .i64 0).wf = true by decide))
      have e4 := hupd.symm.trans hr3
      injection e4 with _ e5
      subst e5
      have hown3 : Cnt w3 b (n + 1) (D.put kl (.lit (.int .i64 0))) := Cnt.same hown (by rw [heap_setBlock_same hb]; exact hw3)
      obtain ⟨c3, h31, h32⟩ := hown3.look hk
      rw [atKey_put_same hM (keyedPl.key hk)] at h32
      have e6 := hlook.symm.trans hc1
      injection e6 with e7 _
      injection e7 with _ e8
      exact ⟨c3, h31, by rw [hc2, ← h32, e8]⟩
    · have hj : es[j]? = some e0 := by simpa using h2
      have hsame := modify_same h2
      rw [h3] at hsame
      have hrun2 : (Instr.mapEntry 113 (.map (some b)) key).run Try.prog w = .ok (.tuple #[e0.val, goInt e0.born]) (setBlock w b (.map es clock)) := by
        simp [Instr.mapEntry, run_underlying ht, MapKept.run_getObj_map hb, keyedPl.check w false hk, h1, hj, h3, keyedPl.stays w hk, hsame, MapKept.run_setObj_map _ hb, Result.andThen, setBlock]
      have e := hrun.symm.trans hrun2
      injection e with _ e2
      have e3 := congrArg (fun u : World => u.heap[b]?) e2
      simp only [heap_setBlock_same hb] at e3
      rw [e3, ← hb] at hw3
      exact (h0.same hw3).look hk
  · intro w3 x hw3 hx
    rw [heap_setBlock_same hb] at hw3
    obtain ⟨es', clock', hr1, hr2⟩ := hst w3 (.int .i64 x) hw3
    obtain ⟨w', hr3, hown, _⟩ := World.ownsMap.update h0 keyedPl ht hn hk (plainElem_int he hx)
    have e := hr2.symm.trans hr3
    injection e with _ e2
    subst e2
    obtain ⟨es2, clock2, hb2, F2, hs2, hD2⟩ := hown
    rw [heap_setBlock_same hb] at hb2
    simp only [Option.some.injEq, Obj.map.injEq] at hb2
    obtain ⟨rfl, rfl⟩ := hb2
    exact ⟨setBlock w3 b (.map es' clock'), hr1, ⟨es', clock', heap_setBlock_same hw3 _, F2, hs2, hD2⟩, (turned w3 _ _ _ hw3).1, (turned w3 _ _ _ hw3).2⟩

end Go.Proofs.Ytjmfffgddmnkmab
