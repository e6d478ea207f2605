/- For every picture and number, whatever they are, the exact law of FnExactHalftoneOf returns true: the program answers as the model, to the bit. Condition: the program's error variable, which the row lists, holds what the program's text lays (the card ties it). -/
import Derived.Test.YtjmfffgddmnkmabDoorRows
import Derived.Test.YtjmfffgddmnkmabDoorCards
import Derived.Test.YtjmfffgddmnkmabDoorTie
import Derived.WalkKit
import Derived.ProofKit
import Derived.OpenShut
import Derived.LaidMore
import Derived.Lay
import Derived.SevenTiedAt
import Derived.Stop.Joined
import Derived.Stop.LaidErr
import Derived.Lib.LaidTab
import Derived.Shelf.Vars
import Derived.Handed
import Derived.Test.YtjmfffgddmnkmabDoorHt
namespace Go.Proofs.YtjmfffgddmnkmabDoor.fnExactHalftoneOf
open Go.ChangeShapes Go.WideShapes Go.ChangeAt Go.RowKit
set_option linter.unusedVariables false

theorem own : ownKnob Tryd.prog.godebug = none := by kernel_rfl
theorem laidOut : laidOutB Tryd.prog = true := by kernel_rfl
theorem star : "*" ++ "errors.errorString" = "*errors.errorString" := by decide
theorem rowES (u : TypeId) (h : Tryd.prog.typeName? 3 u = some "*errors.errorString") : u = 159 :=
  typeName_ptr_named (nm := "errors.errorString") (by rw [star]; kernel_rfl) (by kernel_rfl) (by decide) u (by rw [star]; exact h)
theorem gN : Tryd.prog.globalNamed "loop.example/g01225/impl.errNotFinite" = some 0 := by kernel_rfl
theorem gT : (Tryd.prog.globals[0]?).map (·.type) = some 81 := by kernel_rfl
/-- the row's list tells where the error lies -/
theorem err_of {W : World} (hL : laidMet Tryd.prog Rows.fnExactHalftoneOfRow.laid W) : ∃ a, W.var? Tryd.prog "loop.example/g01225/impl.errNotFinite" = some #[errV a] ∧ Err a W := by
  obtain ⟨a0, s0, hv0, -, -, -⟩ := laid_sentinel (g := 0) hL gN gT Tryd.underlying81 rowES Tryd.underlying159 Tryd.underlying161 rfl rfl Tryd.underlying9 (by kernel_rfl) (by kernel_rfl)
  refine ⟨a0, hv0, ?_⟩
  have h0 := World.var?_cell gN hv0 0
  unfold Err errV
  simpa using h0
theorem var_below {W W' : World} {a : Addr} (h : W.var? Tryd.prog "loop.example/g01225/impl.errNotFinite" = some #[errV a]) (hE : Err a W) (b : Below W.heap.size W W') : W'.var? Tryd.prog "loop.example/g01225/impl.errNotFinite" = some #[errV a] := by
  have hb := b.block 0 hE.pos
  unfold World.var? at h ⊢
  rw [gN] at h ⊢
  simp only [Option.bind_some] at h ⊢
  rw [hb]; exact h


theorem cellTypes30 : Tryd.prog.cellTypes Tryd.prog.depth 33 = some (2 :: List.replicate 64 30) := by kernel_rfl
theorem cellsOf30 : Tryd.prog.cellsOf 33 = 65 := by kernel_rfl

set_option maxRecDepth 100000 in
/-- what comes in is a picture's cells -/
theorem open_pic {W : World} {r : Reach} {base : Nat} {v : Value} (h : Value.okWide Tryd.prog W r base 33 v) : ∃ s zs, Floats zs ∧ v = .agg (pic s zs) := by
  unfold Value.okWide at h
  rw [Tryd.underlying33] at h
  obtain ⟨cs, rfl, hs, ts, ht, _, hc⟩ := h
  rw [cellsOf30] at hs
  rw [cellTypes30] at ht
  cases ht
  have hlen : (2 :: List.replicate 64 30).length = 65 := by simp
  rw [hlen] at hc
  obtain ⟨u0, hu0, h0⟩ := hc 0 cs[0] (Array.getElem?_eq_getElem (by omega))
  have : u0 = 2 := by simpa using hu0.symm
  subst this
  unfold Cell.okWide Cell.ok at h0
  rw [Tryd.underlying2] at h0
  obtain ⟨s, hs0⟩ : ∃ s, cs[0] = .int .i64 s := by
    generalize cs[0] = v at *
    cases v <;> simp_all
  have hf : ∀ k, k < 64 → ∃ x, x < 4294967296 ∧ cs[k + 1]? = some (.float .f32 x) := by
    intro k hk
    obtain ⟨u, hu, hk'⟩ := hc (k + 1) cs[k + 1] (Array.getElem?_eq_getElem (by omega))
    have : u = 30 := by
      rw [Nat.mod_eq_of_lt (by omega), List.getElem?_cons_succ, List.getElem?_replicate, if_pos hk] at hu
      exact (Option.some.inj hu).symm
    subst this
    unfold Cell.okWide Cell.ok at hk'
    rw [Tryd.underlying30] at hk'
    rw [Array.getElem?_eq_getElem (by omega)]
    generalize cs[k + 1] = v at *
    cases v <;> simp_all [FloatKind.has]
  refine ⟨s, cs.extract 1 65, ⟨by simp [hs], fun k hk => ?_⟩, ?_⟩
  · obtain ⟨x, hx, he⟩ := hf k hk
    refine ⟨x, hx, ?_⟩
    rw [Array.getElem?_extract, if_pos (by omega), Nat.add_comm]
    exact he
  · congr 1
    apply Array.ext_getElem?
    intro i
    cases i with
    | zero => rw [pic_zero, Array.getElem?_eq_getElem (by omega), hs0]
    | succ i =>
      rw [pic_succ, Array.getElem?_extract]
      by_cases hi : i < 64
      · rw [if_pos (by omega), Nat.add_comm 1 i]
      · rw [if_neg (by omega), Array.getElem?_eq_none (by omega)]


set_option maxRecDepth 100000 in
/-- the wrap, with the listed data handed to the walk -/
theorem wrap {H : Type} {enc : TypeId × Value → H} {os : Os} {X : World → Array Value → Prop} (hX : ∀ (w w' : World) (args : Array Value), w.heap = w'.heap → X w args → X w' args) (started : os.Started)
    (witness : ∃ (w : World) (tape : Tape) (i : Input), w.os = os ∧ (w.forCall tape i).Shaped Tryd.prog ∧ i.vars = [] ∧ Input.okWide Tryd.prog (w.forCall tape i) .any w.heap.size 5 i ∧
      ((Rows.fnExactHalftoneOfSpec.pre enc Tryd.prog Tryd.f5 Rows.fnExactHalftoneOfRow.domain false (w.forCall tape i).memory i.args ∧ X (w.forCall tape i).memory i.args) ∧ sizedMet enc Tryd.prog Tryd.f5 (OpenSpec.ofChange Rows.fnExactHalftoneOfSpec) false (w.forCall tape i).memory i.args) ∧ Assume.holds {} Tryd.prog (lone (Frame.enter Tryd.prog 5 i.args .normal) [] (w.forCall tape i)))
    (walk : ∀ (W : World) (base : Nat) (args : Array Value) (ds gs : List (DataW H)) (before : List MemPlace),
      (∀ (j : Nat) t v, Tryd.f5.params[j]? = some t → args[j]? = some v → Value.okWide Tryd.prog W .any base t v) →
      DataW.Whole enc Tryd.prog Tryd.f5.params.toList Rows.fnExactHalftoneOfSpec.vars false W args.toList ds gs before → X W args → W.ShapedOpen Tryd.prog →
      Calls Tryd.prog 5 args W fun e W' => ∃ v, e = .returned v ∧ Rows.fnExactHalftoneOfSpec.post enc Tryd.prog Tryd.f5 false true false false W args v W') :
    ReturnsInHanded {} Tryd.checked os 5 .any (fun w args => (Rows.fnExactHalftoneOfSpec.pre enc Tryd.prog Tryd.f5 Rows.fnExactHalftoneOfRow.domain false w args ∧ X w args) ∧ sizedMet enc Tryd.prog Tryd.f5 (OpenSpec.ofChange Rows.fnExactHalftoneOfSpec) false w args)
      (Rows.fnExactHalftoneOfSpec.post enc Tryd.prog Tryd.f5 false true false false) := by
  refine returnsInHanded_of_calls own started (by kernel_rfl) witness fun w tape i _ shape _ ok pre _ => ?_
  have typed := ok
  obtain ⟨_, _, _, fn, hfn, _, _, _, _, hval⟩ := typed
  obtain rfl := Option.some.inj (hfn.symm.trans Tryd.func5)
  obtain ⟨⟨⟨ds, gs, before, whole, _⟩, hx⟩, _⟩ := pre
  refine (walk (w.forCall tape i) w.heap.size i.args ds gs before hval (DataW.Whole.of_heap (w' := w.forCall tape i) (by rfl) whole) (hX _ _ _ (by rfl) hx) shape).mono ?_
  rintro e W' ⟨v, rfl, hp⟩
  exact ChangeSpec.post_blind hp

set_option maxRecDepth 100000 in
theorem lifted (os : Os) (started : os.Started) (H : Type) (enc : TypeId × Value → H) :
    ReturnsInHanded {} Tryd.checked os 5 .any (fun w args => (Rows.fnExactHalftoneOfSpec.pre enc Tryd.prog Tryd.f5 Rows.fnExactHalftoneOfRow.domain false w args ∧ laidMetH Tryd.prog Rows.fnExactHalftoneOfRow.laid w) ∧ sizedMet enc Tryd.prog Tryd.f5 (OpenSpec.ofChange Rows.fnExactHalftoneOfSpec) false w args)
      (Rows.fnExactHalftoneOfSpec.post enc Tryd.prog Tryd.f5 false true false false) := by
  refine wrap (X := fun w _ => laidMetH Tryd.prog Rows.fnExactHalftoneOfRow.laid w) (fun _ _ _ hh h => h.of_heap hh) started
    (ChangeSpec.witness_shaped (enc := enc) (C := Tryd.checked) (os := os) (X := fun w _ => laidMetH Tryd.prog Rows.fnExactHalftoneOfRow.laid w) false (World.laidAll Tryd.prog os Rows.fnExactHalftoneOfRow.laid) #[.agg (pic 0 zero64), .float .f32 0] 8 (World.laidAll_os _ _ _)
      (World.shaped_of_ZipB (by kernel_rfl) (by kernel_rfl)) (by kernel_rfl) (by kernel_rfl) (by kernel_rfl)
      (by rw [MakeChecks.laidMetH_plain _ _ _ (by kernel_rfl)]; exact laidMet_laidAll _ (by kernel_rfl) (by kernel_rfl))) ?_
  intro W base args ds gs before hval0 hW hL hsh
  have hval : ∀ (j : Nat) t v, Tryd.f5.params[j]? = some t → args[j]? = some v → Value.okWide Tryd.prog W .any base t v := hval0
  have hW' := hW
  obtain ⟨p, q, hA0, hV0, rfl, hfz, hnd⟩ := hW
  have hA : DataW.TrodAll enc Tryd.prog W 0 (fun _ => true) true Tryd.f5.params.toList args.toList ds p := hA0
  have hV : DataW.TrodVars enc Tryd.prog W (fun _ => true) ["loop.example/g01225/impl.errNotFinite"] gs q := hV0
  rw [Tryd.params5] at hA hval
  obtain ⟨v0, vs0, d0, ds0, p0, q0, hargs, rfl, rfl, h0, r0⟩ := trodAll_cons hA
  obtain ⟨v1, vs1, d1, ds1, p1, q1, rfl, rfl, rfl, h1, r1⟩ := trodAll_cons r0
  obtain ⟨rfl, rfl, rfl⟩ := trodAll_nil r1
  obtain rfl : args = #[v0, v1] := by cases args; simp_all
  rw [MakeChecks.laidMetH_plain _ _ _ (by kernel_rfl)] at hL
  obtain ⟨a, hv, hE⟩ := err_of hL
  have vr : ∀ {X : World}, X.var? Tryd.prog "loop.example/g01225/impl.errNotFinite" = some #[errV a] → ∀ sp : Nat → Bool, DataW.TrodVars enc Tryd.prog X sp ["loop.example/g01225/impl.errNotFinite"] [tok enc (errV a)] [.cell 0 0] :=
    fun x0 sp => vars_read1 enc gN gT Tryd.underlying81 x0 trivial sp
  obtain ⟨rfl, rfl⟩ := hV.unique (vr hv _)
  have k0 := h0
  have lt0 : ∀ x ∈ p0, x.block < W.heap.size := by obtain ⟨m, hm⟩ := k0; exact DataW.trod_lt m _ _ _ hm
  obtain ⟨s0, zs0, hz0, rfl⟩ := open_pic (hval 0 33 v0 rfl rfl)
  obtain ⟨t1, rfl, rfl, rfl, w1⟩ := open_float Tryd.underlying30 (hval 1 30 v1 rfl rfl) h1
  clear hA0 hval0 hV0
  refine (lawHt_all s0 zs0 t1 hz0 a W hE).mono fun e W' ⟨he, bel⟩ => ?_
  subst he
  exact ⟨_, rfl, _, _, _, [], _, [.cell 0 0], hW', trodAll_mk1 (shut_bool Tryd.underlying4 _), (trodAll_cons_mk (Below.trod laidOut (by kernel_rfl) (of_decide_eq_true (by kernel_rfl)) k0 bel lt0) (trodAll_cons_mk (shut_float Tryd.underlying30 w1) trodAll_mk0)), vr (var_below hv hE bel) _, bel.frame _, fun h => by cases h⟩

theorem holds : Rows.FnExactHalftoneOfSaid :=
  OpenClaim.holds_of_wide 5 Tryd.f5 rfl rfl rfl rfl rfl rfl rfl ⟨rfl, rfl, rfl, rfl, rfl⟩ rfl rfl rfl rfl rfl (by kernel_rfl) Tryd.func5 (by kernel_rfl)
    (of_decide_eq_true (by kernel_rfl)) (by unfold Func.isWrapper; first | (rw [if_pos (by decide +kernel)]; kernel_rfl) | (rw [if_neg (by decide +kernel)]; exact ⟨rfl, rfl⟩))
    (fun os started H enc _ => lifted os started H enc)

/-- THE STATEMENT: the tied card -/
theorem proved : Rows.FnExactHalftoneOfCardSaid :=
  Claim7.holds_tied_plain_at .later [] [.sentinel] true Rows.fnExactHalftoneOfCard.stood.harness true holds (fun _ h => by cases h) (by kernel_rfl) (fun _ h => by cases h) fnExactHalftoneOf_row_tie rfl ⟨rfl, rfl⟩ (by kernel_rfl) rfl
    (fun f fn hf hfn => by
      obtain rfl : f = 5 := Option.some.inj ((show Tryd.prog.funcNamed "loop.example/g01225/laws.FnExactHalftoneOf" = some 5 by kernel_rfl).symm.trans hf) |>.symm
      obtain rfl : fn = Tryd.f5 := (Option.some.inj (Tryd.func5.symm.trans hfn)).symm
      exact ⟨by kernel_rfl, fun j t ht => by
        rw [Tryd.params5] at ht
        have hm : t ∈ [33, 30] := by simpa using Array.mem_of_getElem? ht
        have hall : ([33, 30].all fun u => !Tryd.prog.wantsStandIn u) = true := by kernel_rfl
        exact (show Tryd.prog.wantsStandIn t = false by simpa using List.all_eq_true.1 hall t hm)⟩)
    (by kernel_rfl)
#print axioms proved
end Go.Proofs.YtjmfffgddmnkmabDoor.fnExactHalftoneOf
