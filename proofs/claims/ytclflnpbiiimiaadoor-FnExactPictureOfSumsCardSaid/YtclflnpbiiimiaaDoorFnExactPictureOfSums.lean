/- For every input, whatever it is, the exact law of PictureOfSums returns true: the program answers as the model, to the bit. Condition: the program's error variable, which the row lists, holds what the program's text lays (the card ties it). -/
import Derived.Test.YtclflnpbiiimiaaDoorRows
import Derived.Test.YtclflnpbiiimiaaDoorCards
import Derived.Test.YtclflnpbiiimiaaDoorTie
import Derived.WalkKit
import Derived.ProofKit
import Derived.OpenShut
import Derived.LaidMore
import Derived.Lay
import Derived.SevenTiedAt
import Derived.Stop.Joined
import Derived.Stop.LaidErr
import Derived.Lib.LaidTab
import Derived.Shelf.Vars
import Derived.Handed
import Derived.ShutString
import Derived.ChangeOld
import Derived.Below
import Derived.Deep.Slices
import Derived.Test.YtclflnpbiiimiaaDoorLPc
import Derived.Test.YtclflnpbiiimiaaDoorKo
import Derived.Test.YtclflnpbiiimiaaDoorIPc
namespace Go.Proofs.YtclflnpbiiimiaaDoor.fnExactPictureOfSums
open Go.ChangeShapes Go.WideShapes Go.ChangeAt Go.RowKit Go.Deep
set_option linter.unusedVariables false

theorem own : ownKnob Tryd.prog.godebug = none := by kernel_rfl
theorem laidOut : laidOutB Tryd.prog = true := by kernel_rfl
theorem star : "*" ++ "errors.errorString" = "*errors.errorString" := by decide
theorem rowES (u : TypeId) (h : Tryd.prog.typeName? 3 u = some "*errors.errorString") : u = 128 :=
  typeName_ptr_named (nm := "errors.errorString") (by rw [star]; kernel_rfl) (by kernel_rfl) (by decide) u (by rw [star]; exact h)
theorem gN : Tryd.prog.globalNamed "loop.example/g01225/impl.errNotFinite" = some 1 := by kernel_rfl
theorem gT : (Tryd.prog.globals[1]?).map (·.type) = some 108 := by kernel_rfl
/-- the program's error -/
def errV (a : Addr) : Value := .iface 128 (.pointer (some a))
/-- its variable holds it -/
def Err (a : Addr) (w : World) : Prop := w.cell? ⟨1, 0, none⟩ = some (errV a)
theorem Err.pos {a : Addr} {w : World} (h : Err a w) : 1 < w.heap.size := World.block_lt_of_cell? w _ h
/-- the row's list tells where the error lies -/
theorem err_of {W : World} (hL : laidMet Tryd.prog Rows.fnExactPictureOfSumsRow.laid W) : ∃ a, W.var? Tryd.prog "loop.example/g01225/impl.errNotFinite" = some #[errV a] ∧ Err a W := by
  obtain ⟨a0, s0, hv0, -, -, -⟩ := laid_sentinel (g := 1) hL gN gT Tryd.underlying108 rowES Tryd.underlying128 Tryd.underlying155 rfl rfl Tryd.underlying9 (by kernel_rfl) (by kernel_rfl)
  refine ⟨a0, hv0, ?_⟩
  have h0 := World.var?_cell gN hv0 0
  unfold Err errV
  simpa using h0
theorem var_below {W W' : World} {a : Addr} (h : W.var? Tryd.prog "loop.example/g01225/impl.errNotFinite" = some #[errV a]) (hE : Err a W) (b : Below W.heap.size W W') : W'.var? Tryd.prog "loop.example/g01225/impl.errNotFinite" = some #[errV a] := by
  have hb := b.block 1 hE.pos
  unfold World.var? at h ⊢
  rw [gN] at h ⊢
  simp only [Option.bind_some] at h ⊢
  rw [hb]; exact h


theorem add_none (b off i : Nat) : (⟨b, off, none⟩ : Addr).add i = ⟨b, off + i, none⟩ := by unfold Addr.add; split <;> simp_all

theorem trod_float {H : Type} {enc : TypeId × Value → H} {P : Program} {w : World} {base : Nat} {sp : Nat → Bool} {hd : Bool} {fuel : Nat} {t : TypeId} {cs : List Value} {x : DataW H × List MemPlace} {k : FloatKind} (ht : P.underlying t = some (.float k)) (h : DataW.trod enc P w base sp hd fuel t cs = some x) :
    ∃ b, cs = [.float k b] ∧ (Lit.float k b).wf = true := by
  cases fuel with
  | zero => simp [DataW.trod] at h
  | succ n =>
    unfold DataW.trod at h
    rw [ht] at h
    split at h <;> simp_all

/-- the word of a float32 -/
def wordOf (v : Value) : Nat := match v with | .float _ b => b | _ => 0
theorem came_floats {H : Type} {enc : TypeId × Value → H} {W : World} {base : Nat} {sp : Nat → Bool} {hd : Bool} {a : Option Addr} {len cap : Nat} {d : DataW H} {ps : List MemPlace} (h : DataW.Trod enc Tryd.prog W base sp hd 26 (.slice a len cap) d ps) :
    ∃ L, CameF a len L W ∧ ∀ x ∈ L, x < 4294967296 := by
  obtain ⟨fuel, hf⟩ := h
  rcases open_slice1 Tryd.underlying26 (by kernel_rfl) hf with ⟨hcs, _⟩ | ⟨x, l, c, m, n, V, D, Pl, hcs, _, hl, hm, hmm, _, hx⟩
  · simp [Value.cells] at hcs
    obtain ⟨rfl, rfl, rfl⟩ := hcs
    exact ⟨[], ⟨rfl, fun h => absurd h (by simp)⟩, fun x hx => by cases hx⟩
  · simp [Value.cells] at hcs
    obtain ⟨rfl, rfl, rfl⟩ := hcs
    have hlm : len ≤ m := by rw [hmm]; split <;> omega
    have hv : ∀ i, i < len → V i = .float .f32 (wordOf (V i)) ∧ wordOf (V i) < 4294967296 := by
      intro i hi
      obtain ⟨b, e, hb⟩ := trod_float Tryd.underlying38 (hx i (by omega)).2
      injection e with e
      rw [e]
      refine ⟨rfl, ?_⟩
      show b < 4294967296
      simpa [Lit.wf] using hb
    refine ⟨(List.range len).map (fun i => wordOf (V i)), ⟨by simp, fun h0 => ?_⟩, fun x hx => ?_⟩
    · obtain ⟨b, off, spot⟩ := x
      have hc := (hx 0 (by omega)).1
      have hspot : spot = none := by simpa [Addr.add] using World.cell?_spot hc
      subst hspot
      have hadd : ∀ i, (⟨b, off, none⟩ : Addr).add i = ⟨b, off + i, none⟩ := add_none b off
      refine ⟨b, off, rfl, World.block_lt_of_cell? W _ (by have := hc; rw [hadd] at this; exact this), fun i hi => ?_⟩
      have hci := (hx i (by omega)).1
      rw [hadd] at hci
      rw [hci, (hv i hi).1, List.getD_eq_getElem?_getD, List.getElem?_map, List.getElem?_range hi]
      rfl
    · obtain ⟨i, hi, rfl⟩ := List.mem_map.1 hx
      exact (hv i (by simpa using hi)).2

theorem walk (m0 : Int) (a1 : Option Addr) (len1 cap1 : Nat) (L1 : List Nat) (w : World) (h1 : CameF a1 len1 L1 w) (h1' : ∀ x ∈ L1, x < 4294967296) :
    Calls Tryd.prog 4 #[.int .i64 m0, .slice a1 len1 cap1] w fun e w' => e = .returned (.bool true) ∧ Below w.heap.size w w' := by
  exact lawPictureOfSums_of m0 a1 len1 cap1 L1 (pcS m0 L1) (pcC m0 L1) (pcZ m0 L1) w h1 (pcZ_nums m0 L1) (pcZ_one m0 L1) (Lib.hid (specPc m0 L1)) (Lib.hid (implPc m0 L1))

set_option maxRecDepth 100000 in
/-- the wrap, with the listed data handed to the walk -/
theorem wrap {H : Type} {enc : TypeId × Value → H} {os : Os} {X : World → Array Value → Prop} (hX : ∀ (w w' : World) (args : Array Value), w.heap = w'.heap → X w args → X w' args) (started : os.Started)
    (witness : ∃ (w : World) (tape : Tape) (i : Input), w.os = os ∧ (w.forCall tape i).Shaped Tryd.prog ∧ i.vars = [] ∧ Input.okWide Tryd.prog (w.forCall tape i) .any w.heap.size 4 i ∧
      ((Rows.fnExactPictureOfSumsSpec.pre enc Tryd.prog Tryd.f4 Rows.fnExactPictureOfSumsRow.domain false (w.forCall tape i).memory i.args ∧ X (w.forCall tape i).memory i.args) ∧ sizedMet enc Tryd.prog Tryd.f4 (OpenSpec.ofChange Rows.fnExactPictureOfSumsSpec) false (w.forCall tape i).memory i.args) ∧ Assume.holds {} Tryd.prog (lone (Frame.enter Tryd.prog 4 i.args .normal) [] (w.forCall tape i)))
    (walk : ∀ (W : World) (base : Nat) (args : Array Value) (ds gs : List (DataW H)) (before : List MemPlace),
      (∀ (j : Nat) t v, Tryd.f4.params[j]? = some t → args[j]? = some v → Value.okWide Tryd.prog W .any base t v) →
      DataW.Whole enc Tryd.prog Tryd.f4.params.toList Rows.fnExactPictureOfSumsSpec.vars false W args.toList ds gs before → X W args → W.ShapedOpen Tryd.prog →
      Calls Tryd.prog 4 args W fun e W' => ∃ v, e = .returned v ∧ Rows.fnExactPictureOfSumsSpec.post enc Tryd.prog Tryd.f4 false true false false W args v W') :
    ReturnsInHanded {} Tryd.checked os 4 .any (fun w args => (Rows.fnExactPictureOfSumsSpec.pre enc Tryd.prog Tryd.f4 Rows.fnExactPictureOfSumsRow.domain false w args ∧ X w args) ∧ sizedMet enc Tryd.prog Tryd.f4 (OpenSpec.ofChange Rows.fnExactPictureOfSumsSpec) false w args)
      (Rows.fnExactPictureOfSumsSpec.post enc Tryd.prog Tryd.f4 false true false false) := by
  refine returnsInHanded_of_calls own started (by kernel_rfl) witness fun w tape i _ shape _ ok pre _ => ?_
  have typed := ok
  obtain ⟨_, _, _, fn, hfn, _, _, _, _, hval⟩ := typed
  obtain rfl := Option.some.inj (hfn.symm.trans Tryd.func4)
  obtain ⟨⟨⟨ds, gs, before, whole, _⟩, hx⟩, _⟩ := pre
  refine (walk (w.forCall tape i) w.heap.size i.args ds gs before hval (DataW.Whole.of_heap (w' := w.forCall tape i) (by rfl) whole) (hX _ _ _ (by rfl) hx) shape).mono ?_
  rintro e W' ⟨v, rfl, hp⟩
  exact ChangeSpec.post_blind hp

set_option maxRecDepth 100000 in
theorem lifted (os : Os) (started : os.Started) (H : Type) (enc : TypeId × Value → H) :
    ReturnsInHanded {} Tryd.checked os 4 .any (fun w args => (Rows.fnExactPictureOfSumsSpec.pre enc Tryd.prog Tryd.f4 Rows.fnExactPictureOfSumsRow.domain false w args ∧ laidMetH Tryd.prog Rows.fnExactPictureOfSumsRow.laid w) ∧ sizedMet enc Tryd.prog Tryd.f4 (OpenSpec.ofChange Rows.fnExactPictureOfSumsSpec) false w args)
      (Rows.fnExactPictureOfSumsSpec.post enc Tryd.prog Tryd.f4 false true false false) := by
  refine wrap (X := fun w _ => laidMetH Tryd.prog Rows.fnExactPictureOfSumsRow.laid w) (fun _ _ _ hh h => h.of_heap hh) started
    (ChangeSpec.witness_shaped (enc := enc) (C := Tryd.checked) (os := os) (X := fun w _ => laidMetH Tryd.prog Rows.fnExactPictureOfSumsRow.laid w) false (World.laidAll Tryd.prog os Rows.fnExactPictureOfSumsRow.laid) #[.int .i64 0, .slice none 0 0] 8 (World.laidAll_os _ _ _)
      (World.shaped_of_ZipB (by kernel_rfl) (by kernel_rfl)) (by kernel_rfl) (by kernel_rfl) (by kernel_rfl)
      (by rw [MakeChecks.laidMetH_plain _ _ _ (by kernel_rfl)]; exact laidMet_laidAll _ (by kernel_rfl) (by kernel_rfl))) ?_
  intro W base args ds gs before hval0 hW hL hsh
  have hval : ∀ (j : Nat) t v, Tryd.f4.params[j]? = some t → args[j]? = some v → Value.okWide Tryd.prog W .any base t v := hval0
  have hW' := hW
  obtain ⟨p, q, hA0, hV0, rfl, hfz, hnd⟩ := hW
  have hA : DataW.TrodAll enc Tryd.prog W 0 (fun _ => true) true Tryd.f4.params.toList args.toList ds p := hA0
  have hV : DataW.TrodVars enc Tryd.prog W (fun _ => true) ["loop.example/g01225/impl.errNotFinite"] gs q := hV0
  rw [Tryd.params4] at hA hval
  obtain ⟨v0, vs0, d0, ds0, p0, q0, hargs, rfl, rfl, h0, r0⟩ := trodAll_cons hA
  obtain ⟨v1, vs1, d1, ds1, p1, q1, rfl, rfl, rfl, h1, r1⟩ := trodAll_cons r0
  obtain ⟨rfl, rfl, rfl⟩ := trodAll_nil r1
  obtain rfl : args = #[v0, v1] := by cases args; simp_all
  rw [MakeChecks.laidMetH_plain _ _ _ (by kernel_rfl)] at hL
  obtain ⟨a, hv, hE⟩ := err_of hL
  have vr : ∀ {X : World}, X.var? Tryd.prog "loop.example/g01225/impl.errNotFinite" = some #[errV a] → ∀ sp : Nat → Bool, DataW.TrodVars enc Tryd.prog X sp ["loop.example/g01225/impl.errNotFinite"] [tok enc (errV a)] [.cell 1 0] :=
    fun x0 sp => vars_read1 enc gN gT Tryd.underlying108 x0 trivial sp
  obtain ⟨rfl, rfl⟩ := hV.unique (vr hv _)
  obtain ⟨m0, rfl, rfl, rfl, w0⟩ := open_int Tryd.underlying2 (hval 0 2 v0 rfl rfl) h0
  have k1 := h1
  have lt1 : ∀ x ∈ p1, x.block < W.heap.size := by obtain ⟨m, hm⟩ := k1; exact DataW.trod_lt m _ _ _ hm
  obtain ⟨a1, len1, cap1, rfl⟩ := okWide_slice Tryd.underlying26 (hval 1 26 v1 rfl rfl)
  obtain ⟨L1, g1, g1'⟩ : ∃ L, CameF a1 len1 L W ∧ ∀ x ∈ L, x < 4294967296 := came_floats h1
  clear hA0 hval0 hV0
  refine (walk m0 a1 len1 cap1 L1 W g1 g1').mono fun e W' ⟨he, bel⟩ => ?_
  subst he
  exact ⟨_, rfl, _, _, _, [], _, [.cell 1 0], hW', trodAll_mk1 (shut_bool Tryd.underlying4 _), (trodAll_cons_mk (shut_int Tryd.underlying2 w0) (trodAll_cons_mk (Below.trod laidOut (by kernel_rfl) (of_decide_eq_true (by kernel_rfl)) k1 bel lt1) trodAll_mk0)), vr (var_below hv hE bel) _, bel.frame _, fun h => by cases h⟩

theorem holds : Rows.FnExactPictureOfSumsSaid :=
  OpenClaim.holds_of_wide 4 Tryd.f4 rfl rfl rfl rfl rfl rfl rfl ⟨rfl, rfl, rfl, rfl, rfl⟩ rfl rfl rfl rfl rfl (by kernel_rfl) Tryd.func4 (by kernel_rfl)
    (of_decide_eq_true (by kernel_rfl)) (by unfold Func.isWrapper; first | (rw [if_pos (by decide +kernel)]; kernel_rfl) | (rw [if_neg (by decide +kernel)]; exact ⟨rfl, rfl⟩))
    (fun os started H enc _ => lifted os started H enc)

/-- THE STATEMENT: the tied card -/
theorem proved : Rows.FnExactPictureOfSumsCardSaid :=
  Claim7.holds_tied_plain_at .later [] [.sentinel] true Rows.fnExactPictureOfSumsCard.stood.harness true holds (fun _ h => by cases h) (by kernel_rfl) (fun _ h => by cases h) fnExactPictureOfSums_row_tie rfl ⟨rfl, rfl⟩ (by kernel_rfl) rfl
    (fun f fn hf hfn => by
      obtain rfl : f = 4 := Option.some.inj ((show Tryd.prog.funcNamed "loop.example/g01225/laws.FnExactPictureOfSums" = some 4 by kernel_rfl).symm.trans hf) |>.symm
      obtain rfl : fn = Tryd.f4 := (Option.some.inj (Tryd.func4.symm.trans hfn)).symm
      exact ⟨by kernel_rfl, fun j t ht => by
        rw [Tryd.params4] at ht
        have hm : t ∈ [2, 26] := by simpa using Array.mem_of_getElem? ht
        have hall : ([2, 26].all fun u => !Tryd.prog.wantsStandIn u) = true := by kernel_rfl
        exact (show Tryd.prog.wantsStandIn t = false by simpa using List.all_eq_true.1 hall t hm)⟩)
    (by kernel_rfl)
#print axioms proved
end Go.Proofs.YtclflnpbiiimiaaDoor.fnExactPictureOfSums
