/- The sum of the products of a list and what an iterator tells. Condition: at most 64 places, numbers that are finite. -/
import Derived.Test.YtclflnpbiiimiaaDoorM20
namespace Go.Proofs.YtclflnpbiiimiaaDoor
open Go Go.RowKit Go.Shelf Ieee
attribute [local go_sem] Oper.semAt_some

/-- the sum as the program has it, beside the one with an early end -/
def SR (o : Option Nat) (r : Nat) : Prop := (o = some r ∧ fin r = true) ∨ (o = none ∧ fin r = false)
def stepO (o : Option Nat) (p : Nat) : Option Nat := o.bind fun s => if fin (addF s p) = true then some (addF s p) else none
theorem SR_good {o : Option Nat} {r p : Nat} (h : SR o r) (hr : fin r = true) : SR (stepO o p) (addF r p) := by
  rcases h with ⟨rfl, _⟩ | ⟨_, h⟩
  · unfold stepO
    rw [Option.bind_some]
    cases hf : fin (addF r p)
    · exact .inr ⟨by simp, hf⟩
    · exact .inl ⟨by simp, hf⟩
  · rw [hr] at h; cases h
theorem SR_bad {o : Option Nat} {r p z : Nat} (h : SR o r) (hp : NotNan p) (hb : fin r = false ∨ fin p = false) (hz : fin z = false) : SR (stepO o p) z := by
  rcases h with ⟨rfl, h⟩ | ⟨rfl, _⟩
  · rcases hb with hb | hb
    · rw [h] at hb; cases hb
    · have h1 := addF_num r p h hp
      have h2 : fin (addF r p) = false := by
        rcases add_bad r p (.inr hb) with ⟨z, e, hz⟩ | e
        · rw [h1] at e
          injection e with e
          rw [e]; exact hz
        · rw [h1] at e; cases e
      unfold stepO
      rw [Option.bind_some, if_neg (by rw [h2]; decide)]
      exact .inr ⟨rfl, hz⟩
  · exact .inr ⟨rfl, hz⟩

/-- the sum behind what has come -/
def accP {n : Nat} {R : Nat → Nat → Prop} (L : List Nat) (pre : List (Pt n R)) : Option Nat := pre.foldl (fun o x => stepO o (mulF (L.getD x.1.1 0) x.1.2)) (some 0)
theorem accP_snoc {n : Nat} {R : Nat → Nat → Prop} (L : List Nat) (pre : List (Pt n R)) (x : Pt n R) : accP L (pre ++ [x]) = stepO (accP L pre) (mulF (L.getD x.1.1 0) x.1.2) := by simp [accP]
theorem accP_all {n : Nat} {F : Nat → Nat} (L : List Nat) : ∀ (k : Nat) (pre : List (Pt n (fun j v => v = F j))), pre.map (fun x => x.1.1) = List.range k → accP L pre = accTo (fun j => mulF (L.getD j 0) (F j)) k
  | 0, pre, h => by
    have : pre = [] := by simpa using h
    rw [this]; rfl
  | k + 1, pre, h => by
    have hl : pre.length = k + 1 := by have := congrArg List.length h; simpa using this
    obtain ⟨ini, x, rfl⟩ : ∃ ini x, pre = ini ++ [x] := by
      rcases List.eq_nil_or_concat pre with rfl | ⟨ini, x, h⟩
      · simp at hl
      · exact ⟨ini, x, by rw [h]; simp⟩
    rw [List.map_append, List.range_succ] at h
    obtain ⟨h1, h2⟩ := List.append_inj' h rfl
    have hx : x.1.1 = k := by simpa using h2
    rw [accP_snoc, accP_all L k ini h1]
    have h3 : x.1.2 = F x.1.1 := x.2.2
    rw [h3, hx]
    rfl

/-- what a round of the sum leaves -/
theorem sum_left {w W X : World} {bs bl z a b : Nat} {v u : Value} {T U : TypeId} (hb : Boxed W bs T u) (hl : Boxed W bl U v) (hne : bl ≠ bs) (hB : Below w.heap.size w W) (hbs : w.heap.size ≤ bs) (B : Nat)
    (hX : X = ((W.drewN a).setCell ⟨bs, 0, none⟩ (.float .f32 z)).drewN b) :
    KeepsFrom B W X ∧ Below w.heap.size W X ∧ Boxed X bs T (.float .f32 z) ∧ Boxed X bl U v ∧ Below w.heap.size w X := by
  subst hX
  refine ⟨⟨(KeepsOthers.setCell W ⟨bs, 0, none⟩ (.float .f32 z)).size, fun k o _ hk ho => (KeepsOthers.setCell W ⟨bs, 0, none⟩ (.float .f32 z)).same k o hk ho⟩, ?_, ?_, ?_, ?_⟩
  · exact below_drewN ((below_drewN (Below.refl _ W) a).setCell (p := ⟨bs, 0, none⟩) hbs _) b
  · exact Boxed.set (W := W) (.float .f32 z) hb
  · exact Boxed.other (W := W) hl hne _
  · exact below_drewN ((below_drewN hB a).setCell (p := ⟨bs, 0, none⟩) hbs _) b

set_option maxRecDepth 100000 in
set_option maxHeartbeats 4000000 in
theorem sumOf_any (n : Nat) (hn : n ≤ 64) (F : Nat → Nat) (hF : ∀ j, j < n → fin (F j) = true) (lb : Array Value) (ad : Option Addr) (cap : Nat) (L : List Nat) (w : World) (hL : L.all fin = true) (hC : CameF ad n L w)
    (hS : Seq 80 lb n (fun j v => v = F j) w.heap.size w) :
    Calls Tryd.prog 55 #[.slice ad n cap, .func (.func 80) #[] lb] w fun e w' =>
      (∃ r, e = .returned (.float .f32 r) ∧ SR (accTo (fun j => mulF (L.getD j 0) (F j)) n) r) ∧ Below w.heap.size w w' := by
  have HS := Lib.hid hS
  have HC := Lib.hid hC
  have HLN := Lib.hid hC.1
  have HP : Hid (∀ j, j < n → single.mul (L.getD j 0) (F j) = some (mulF (L.getD j 0) (F j)) ∧ NotNan (mulF (L.getD j 0) (F j))) := Lib.hid (fun j hj => mulF_fin _ _ (all_at hL j (by rw [hC.1]; exact hj)) (hF j hj))
  obtain ⟨T, hT⟩ : ∃ T, T = accTo (fun j => mulF (L.getD j 0) (F j)) n := ⟨_, rfl⟩
  rw [← hT]
  have HT := Lib.hid hT
  clear hS hC hL hF hT
  refine (callsIn_wide (n := 10)).1 ?_
  refine callsIn_of_wp_marks Tryd.func55 rfl trivial ?_ rfl
  simp only [Tryd.ntmps55, List.size_toArray, List.length_cons, List.length_nil, Nat.reduceAdd, Nat.reduceSub, Array.replicate_succ, Array.replicate_zero, List.push_toArray, List.append_toArray, List.nil_append, List.cons_append]
  refine wpIn_wide.2 ?_
  go_wp2_with fail
  have hb1 := (Boxed.new w 26 (.slice ad n cap)).alloc (.cells #[.float .f32 0] 38)
  have hb2 := Boxed.new (w.alloc (.cells #[.slice ad n cap] 26)) 38 (.float .f32 0)
  rw [World.size_alloc] at hb2
  have hB2 : Below w.heap.size w ((w.alloc (.cells #[.slice ad n cap] 26)).alloc (.cells #[.float .f32 0] 38)) := ((Below.refl _ w).alloc (Nat.le_refl _) _).alloc (by simp) _
  have hsz : ((w.alloc (.cells #[.slice ad n cap] 26)).alloc (.cells #[.float .f32 0] 38)).heap.size = w.heap.size + 2 := by simp
  generalize (w.alloc (.cells #[.slice ad n cap] 26)).alloc (.cells #[.float .f32 0] 38) = w2 at *
  refine (wpIn_wide (n := 10)).1 ?_
  refine wpIn_rangeFunc_ownG rfl (by omega) (gf := 80) (lb := lb) rfl trivial (enters_of Tryd.func80 (by kernel_rfl) rfl)
    HS.out belowK_t (belowK_b hB2.size) hB2 (fun _ => rfl)
    (fun pre W => (∃ r, Boxed W (w.heap.size + 1) 38 (.float .f32 r) ∧ SR (accP L pre) r) ∧ Boxed W w.heap.size 26 (.slice ad n cap) ∧ Below w.heap.size w W)
    (fun _ _ _ => False)
    (fun pre A B row hs hg hr => ⟨by obtain ⟨r, h1, h2⟩ := hs.1; exact ⟨r, box_turn h1 hg (fun r e => (hr r e).2), h2⟩, box_turn hs.2.1 hg (fun r e => (hr r e).2), hs.2.2.grown hg hs.2.2.size (fun k e => Nat.le_trans hB2.size (hr k e).1)⟩)
    (fun _ _ _ _ _ hs _ _ => hs)
    ⟨⟨0, hb2, .inl ⟨rfl, by decide⟩⟩, hb1, hB2⟩
    (fun x => { tmps := #[.slice ad n cap, .func (.func 80) #[] lb, .pointer (some ⟨w.heap.size, 0, none⟩), undef, .float .f32 0, .pointer (some ⟨w.heap.size + 1, 0, none⟩), .int .i64 (x.1.1 : Int), .float .f32 x.1.2, .func (.func 80) #[] lb, .int .i64 (x.1.1 : Int), .float .f32 x.1.2, undef, undef, undef, undef, undef, undef, undef, undef, undef], defers := [] }) ?assign ?body ?done ?stop
  case assign =>
    intro l x W K hK
    gi_wp2
    exact hK
  case body =>
    rintro l pre x W ⟨⟨r, hb, hr⟩, hbl, hB⟩ _
    have hc := hb.cell
    have hf := hb.frozen
    have hcl := hbl.cell
    have hx := x.2.1
    have hv : x.1.2 = F x.1.1 := x.2.2
    obtain ⟨b1, o1, rfl, hb1, hc1⟩ := HC.out.2 (by omega)
    have p1 := (hB.cell (p := ⟨b1, o1 + x.1.1, none⟩) hb1).trans (hc1 x.1.1 hx)
    obtain ⟨hm, hnn⟩ := HP.out x.1.1 hx
    rw [← hv] at hm hnn
    have HE : Hid (accP L (pre ++ [x]) = stepO (accP L pre) (mulF (L.getD x.1.1 0) x.1.2)) := Lib.hid (accP_snoc L pre x)
    have h1 := fun w => run_float_arith (P := Tryd.prog) w .mul 38 .f32 _ _ _ hm
    have HBB := Lib.hid hb
    have HBL := Lib.hid hbl
    have HB := Lib.hid hB
    have HR := Lib.hid hr
    have HNN := Lib.hid hnn
    generalize mulF (L.getD x.1.1 0) x.1.2 = p at *
    generalize L.getD x.1.1 0 = y at *
    clear hb1 hc1 hm hnn hv hb hbl hB hr
    rcases add_run r p with ⟨g1, g2, g3⟩ | ⟨g1, ⟨z, g2, g3⟩ | g3⟩
    · have HS2 := Lib.hid (SR_good (p := p) HR.out g1)
      gi_wp2
      gi_region
      all_goals gi_wp2
      all_goals
        have h := sum_left (w := w) HBB.out HBL.out (by omega) HB.out (by omega) w2.heap.size (z := addF r p) (a := 0) (b := 1) rfl
        exact ⟨h.1, h.2.1, ⟨_, h.2.2.1, by rw [HE.out]; exact HS2.out⟩, h.2.2.2⟩
    · have HS2 := Lib.hid (SR_bad HR.out HNN.out g1 g2)
      gi_wp2
      gi_region
      all_goals gi_wp2
      all_goals
        have h := sum_left (w := w) HBB.out HBL.out (by omega) HB.out (by omega) w2.heap.size (z := z) (a := 0) (b := 1) rfl
        exact ⟨h.1, h.2.1, ⟨_, h.2.2.1, by rw [HE.out]; exact HS2.out⟩, h.2.2.2⟩
    · have HS2 := Lib.hid (fun t => SR_bad HR.out HNN.out g1 (nan_fin t))
      gi_wp2
      gi_region
      all_goals gi_wp2
      all_goals
        have h := sum_left (w := w) HBB.out HBL.out (by omega) HB.out (by omega) w2.heap.size (z := nan32 (W.tape (W.drawn + 1) (.nanBits .f32 r p))) (a := 0) (b := 2) rfl
        exact ⟨h.1, h.2.1, ⟨_, h.2.2.1, by rw [HE.out]; exact HS2.out _⟩, h.2.2.2⟩
  case done =>
    rintro D xs W hD hxs ⟨⟨r, hb, hr⟩, hbl, hB⟩ hK
    have hc := hb.cell
    have HR := Lib.hid hr
    have HB := Lib.hid hB
    clear hr hB
    go_wp2
    refine ⟨by simp, .inl ⟨_, _, rfl, run_takeDeferred hK, ?_⟩⟩
    refine ⟨_, results_tmp (t := 4) rfl _ _ _, ⟨r, rfl, by rw [HT.out, ← accP_all L n xs hxs]; exact HR.out⟩, HB.out.trans (belowK_b (w := w) (Nat.le_refl _) W D _ _ (Nat.le_trans hB2.size hD) hK rfl rfl)⟩
  case stop =>
    rintro D c pre W _ _ h _
    exact h.elim

end Go.Proofs.YtclflnpbiiimiaaDoor
