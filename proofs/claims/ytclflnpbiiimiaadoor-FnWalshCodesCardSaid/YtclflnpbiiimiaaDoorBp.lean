/- The program builds a picture out of told levels, where all are finite. Condition: a side. -/
import Derived.Test.YtclflnpbiiimiaaDoorM26
import Derived.Test.YtclflnpbiiimiaaDoorM19
namespace Go.Proofs.YtclflnpbiiimiaaDoor
open Go Go.RowKit Ieee

theorem results_row_only {P : Program} {fn : Func} {p : Tmp} {ty : TypeId} (h : fn.results = #[.cell p ty]) (tmps : Array Value) (w : World) (g : Nat) (t : TypeId) (cs : Array Value) (fr : Nat × Nat) (d : TypeDesc)
    (hp : tmps.getD p undef = .pointer (some ⟨g, 0, none⟩)) (hg : w.heap[g]? = some (.cells cs t fr))
    (hu : P.underlying ty = some d) (hd : (match d with | .struct _ | .array _ _ => true | _ => false) = true) (hi : (P.info? ty).map (·.size) = some cs.size) :
    (results fn tmps).run P w = .ok (.agg cs) w := by
  have hp' : tmps[p]?.getD undef = .pointer (some ⟨g, 0, none⟩) := by simpa using hp
  simp only [results, h]
  simp [asAddr, hp', run_loadVar_row w g t ty cs fr d hg hu hd hi]

theorem pic_setSide (s : Int) : (pic 0 zero64).setIfInBounds 0 (.int .i64 s) = pic s zero64 := by
  have hz : zero64.size = 64 := by simp [zero64]
  apply Array.ext_getElem?
  intro i
  rw [Array.getElem?_setIfInBounds, pic_size 0 zero64 hz]
  cases i with
  | zero => rw [if_pos rfl, if_pos (by omega), pic_zero]
  | succ i => rw [if_neg (by omega), pic_succ, pic_succ]

set_option maxRecDepth 100000 in
set_option maxHeartbeats 1600000 in
theorem buildP_any (s N : Nat) (hN : N = s * s) (h64 : s ≤ 8 ∧ N ≤ 64) (F : Nat → Nat) (hF : ∀ i, i < N → fin (F i) = true) (g : Nat) (lb : Array Value) (hg : ∀ (j : Int) v, (callFunc g (#[.int .i64 j] ++ lb)).run Tryd.prog v = .ok (.enter g (#[.int .i64 j] ++ lb)) v)
    (Bn Bf : Nat) (w : World) (hBn : w.cell? ⟨Bn, 0, none⟩ = some (.int .i64 s)) (hBf : w.cell? ⟨Bf, 0, none⟩ = some (.func (.func g) #[] lb))
    (hT : ∀ i, i < N → ∀ W, Below w.heap.size w W → Calls Tryd.prog g (#[.int .i64 (i : Int)] ++ lb) W fun e W' => e = .returned (.float .f32 (F i)) ∧ W = W') :
    Calls Tryd.prog 78 #[.pointer (some ⟨Bn, 0, none⟩), .pointer (some ⟨Bf, 0, none⟩)] w fun e w' => e = .returned (.agg (pic s (gl F N))) ∧ Below w.heap.size w w' := by
  have hz32 := (zero_of_info info32).1
  have HS32 := Lib.hid (zero_of_info info32).2
  have HZ32 : Hid ((pic 0 zero64).size = 65) := Lib.hid (pic_size 0 zero64 (by simp [zero64]))
  have HE32 : Hid ((pic s zero64).size = 65) := Lib.hid (pic_size s zero64 (by simp [zero64]))
  have hne : ¬ pic 0 zero64 = #[] := fun e => by
    have := congrArg Array.size e
    rw [HZ32.out] at this
    simp at this
  have hzs := pic_setSide s
  have HEI : Hid ((Tryd.prog.info? 41).map (·.size) = some (pic s zero64).size) := Lib.hid (by rw [HE32.out]; exact HS32.out)
  have HZE : Hid ((pic 0 zero64).size = (pic s zero64).size) := Lib.hid (by rw [HZ32.out, HE32.out])
  have HE1 : Hid ((pic s zero64).all (·.oneCell') = true) := Lib.hid (by rw [← gl_zero F]; exact gl_one s F 0)
  have hsq : (s : Int) * s = (N : Int) := by rw [hN, Int.natCast_mul]
  have e1 : IntKind.i64.wrap ((s : Int) * s) = (N : Int) := by rw [hsq]; exact IntWalk.i64_in _ (by omega)
  have hb1 := World.block_lt_of_cell? w _ hBn
  have hb2 := World.block_lt_of_cell? w _ hBf
  have HB1 := Lib.hid hb1
  have HB2 := Lib.hid hb2
  have HBN := Lib.hid hBn
  have HBF := Lib.hid hBf
  have HT := Lib.hid hT
  have HFF := Lib.hid hF
  obtain ⟨E, hE⟩ : ∃ E, E = pic s zero64 := ⟨_, rfl⟩
  rw [← hE] at HE32 HEI HZE HE1 hzs
  have HEE := Lib.hid hE
  generalize pic 0 zero64 = Z at *
  have n0 : ((w.alloc (.cells Z 41))).cell? ⟨Bn, 0, none⟩ = some (.int .i64 s) := (World.cell?_alloc_past _ _ _ hb1).trans hBn
  clear hE hT hF hsq hN hBn hBf hb1 hb2
  obtain ⟨V, hV⟩ : ∃ V, V = ((w.alloc (.cells Z 41)).alloc (.cells Z 41)).setRow (w.heap.size + 1) E := ⟨_, rfl⟩
  have GG : Hid (V.heap[w.heap.size + 1]? = some (.cells E 41 (0, 0))) := Lib.hid (by rw [hV]; exact setRow_heap _ _ _ _ _ _ (h2_1 _ _ _))
  have GZ : Hid (V.heap[w.heap.size]? = some (.cells Z 41 (0, 0))) := Lib.hid (by rw [hV, setRow_other _ _ _ _ (by omega), heap_alloc_old _ _ (by rw [size_al]; omega)]; exact h1_0 _ _)
  have BV : Hid (Below w.heap.size w V) := Lib.hid (by rw [hV]; exact below_setRow (((Below.refl _ _).alloc (Nat.le_refl _) _).alloc (by rw [size_al]; omega) _) (by omega) _)
  have n1 : V.cell? ⟨Bn, 0, none⟩ = some (.int .i64 s) := (BV.out.cell (p := ⟨Bn, 0, none⟩) HB1.out).trans HBN.out
  rw [hV] at n1
  go_enter Tryd.func78, Tryd.ntmps78
  go_wp2_with (refine wpList_store_row rfl 41 (.tmp 3) (.tmp 6) rfl (w.heap.size + 1) E rfl rfl 41 Z (h2_1 _ _ _) HEI.out HZE.out HE1.out ?_)
  rw [← hV]
  clear hV n0
  go_loopw [10] (fun i wr => ∃ (q : Nat) (C : Array Value), q ≤ N ∧ i = .int .i64 q ∧ Hid (C = pic s (gl F q)) ∧ Hid (wr.heap[w.heap.size + 1]? = some (.cells C 41 (0, 0))) ∧ Hid (wr.heap[w.heap.size]? = some (.cells Z 41 (0, 0))) ∧ Hid (Below w.heap.size w wr)) (fun i _ => N - (intOf i).toNat)
  case atStart => exact ⟨0, E, by omega, rfl, Lib.hid (by rw [HEE.out, gl_zero]), GG, GZ, BV⟩
  case round =>
    clear GG GZ BV n1
    obtain ⟨q, C, hq, rfl, HCC, G, Z0, B⟩ := hrel
    by_cases hlt : q < N
    · have hdy : decide ((q : Int) < (N : Int)) = true := by simp; omega
      have hq64 : q < 64 := by omega
      have cf : wr.cell? ⟨Bf, 0, none⟩ = some (.func (.func g) #[] lb) := (B.out.cell (p := ⟨Bf, 0, none⟩) HB2.out).trans HBF.out
      have HSET : Hid (C.setIfInBounds (1 + q) (.float .f32 (F q)) = pic s (gl F (q + 1))) := Lib.hid (by
        rw [← gl_set s F q hq64, HCC.out])
      have HOLD : Hid (C[1 + q]? = some (.float .f32 0)) := Lib.hid (by rw [HCC.out]; exact gl_old s F q hq64)
      have HTQ := Lib.hid (HT.out q hlt wr B.out)
      have HFQ := Lib.hid (HFF.out q hlt)
      generalize F q = x at *
      go_wp2_with fail
      refine HTQ.out.mono ?_
      rintro e w1 ⟨rfl, rfl⟩
      go_wp2_with fail
      refine (finNum10 x HFQ.out wr).mono ?_
      rintro e w2 ⟨rfl, d, rfl⟩
      have hold : (wr.drewN d).cell? ⟨w.heap.size + 1, 1 + q, none⟩ = some (.float .f32 0) := by
        rw [World.cell?_drewN, cell_of_row _ _ _ _ _ _ G.out]; exact HOLD.out
      have hfree : (wr.drewN d).frozen? ⟨w.heap.size + 1, 1 + q, none⟩ = false := frozen_of_row (wr.drewN d) _ _ _ _ G.out
      go_wp2_with fail
      exact ⟨⟨q + 1, C.setIfInBounds (1 + q) (.float .f32 x), by omega, by go_num, HSET, Lib.hid (heap_setCell_same (wr.drewN d) _ _ _ _ _ G.out), Lib.hid (by rw [heap_setCell_other (wr.drewN d) _ _ _ (by show w.heap.size ≠ w.heap.size + 1; omega)]; exact Z0.out), Lib.hid ((below_drewN B.out d).setCell (p := ⟨w.heap.size + 1, 1 + q, none⟩) (by show w.heap.size ≤ w.heap.size + 1; omega) _)⟩, by simp [intOf]; omega⟩
    · obtain rfl : q = N := by omega
      have HC1 : Hid (C.all (·.oneCell') = true) := Lib.hid (by rw [HCC.out]; exact gl_one _ _ _)
      have HCI : Hid ((Tryd.prog.info? 41).map (·.size) = some C.size) := Lib.hid (by rw [HCC.out, pic_size _ _ (gl_size _ _)]; exact HS32.out)
      have HZC : Hid (Z.size = C.size) := Lib.hid (by rw [HCC.out, pic_size _ _ (gl_size _ _)]; exact HZ32.out)
      go_wp2_with (first | (refine wpList_load_row rfl 41 (.tmp 3) rfl (w.heap.size + 1) rfl 41 C (0, 0) _ G.out Tryd.underlying41 rfl HCI.out ?_) | (refine wpList_store_row rfl 41 (.tmp 2) (.tmp 21) rfl w.heap.size C rfl rfl 41 Z Z0.out HCI.out HZC.out HC1.out ?_))
      have hg : (wr.setRow w.heap.size C).heap[w.heap.size]? = some (.cells C 41 (0, 0)) := setRow_heap _ _ _ _ _ _ Z0.out
      refine bodyPost_ret (v := .agg C) (results_row_only (fn := Tryd.f78) (p := 2) (ty := 41) rfl _ _ w.heap.size 41 C (0, 0) _ rfl hg Tryd.underlying41 rfl HCI.out) rfl ⟨by rw [HCC.out], ?_⟩
      exact below_setRow B.out (Nat.le_refl _) _

end Go.Proofs.YtclflnpbiiimiaaDoor
