/- The program's wave of a code: the wave and the code. Condition: none. -/
import Derived.Test.YtclflnpbiiimiaaDoorM15
import Derived.Test.YtclflnpbiiimiaaDoorM33
import Derived.Test.YtclflnpbiiimiaaDoorRh
namespace Go.Proofs.YtclflnpbiiimiaaDoor
open Go Go.RowKit Go.Shelf
attribute [local go_sem] Oper.semAt_some

theorem row_turn {W W' : World} {B : Nat} {t : TypeId} {C : Array Value} {p : Nat × Nat} {row : Option Nat} (h : W.heap[B]? = some (.cells C t p)) (hg : W.grownBy W' row) (hr : ∀ r, row = some r → ∃ o : Obj, W.heap[r]? = some o ∧ o.isCells = false) : W'.heap[B]? = some (.cells C t p) := by
  refine (hg.block B (Array.getElem?_eq_some_iff.1 h).1 fun e' => ?_).trans h
  obtain ⟨o, ho, hc⟩ := hr B e'.symm
  rw [h] at ho; cases ho; cases hc

/-- the cells behind what has come -/
def putC {n : Nat} {R : Nat → Nat → Prop} (E : Array Value) (pre : List (Pt n R)) : Array Value := pre.foldl (fun C x => C.setIfInBounds (1 + x.1.1) (.complex .f32 x.1.2 0)) E
theorem putC_snoc {n : Nat} {R : Nat → Nat → Prop} (E : Array Value) (pre : List (Pt n R)) (x : Pt n R) : putC E (pre ++ [x]) = (putC E pre).setIfInBounds (1 + x.1.1) (.complex .f32 x.1.2 0) := by simp [putC]
def CxA (C : Array Value) : Prop := ∀ i, i < 64 → ∃ a b, C[1 + i]? = some (.complex .f32 a b)
theorem cxA_set {C : Array Value} (h : CxA C) (q a : Nat) : CxA (C.setIfInBounds (1 + q) (.complex .f32 a 0)) := fun i hi => by
  obtain ⟨x, y, e⟩ := h i hi
  rw [Array.getElem?_setIfInBounds]
  split
  · have : 1 + q < C.size := by rename_i h1; rw [h1]; exact (Array.getElem?_eq_some_iff.1 e).1
    rw [if_pos this]
    exact ⟨_, _, rfl⟩
  · exact ⟨x, y, e⟩
theorem putC_cx {n : Nat} {R : Nat → Nat → Prop} {E : Array Value} (hE : CxA E) (pre : List (Pt n R)) : CxA (putC E pre) := by
  unfold putC
  induction pre generalizing E with
  | nil => exact hE
  | cons x xs ih => rw [List.foldl_cons]; exact ih (cxA_set hE _ _)
theorem putC_all {n : Nat} (s : Int) (k : Nat) (hn : n ≤ 64) : ∀ (q : Nat) (pre : List (Pt n (fun j v => v = wal k j))), q ≤ n → pre.map (fun x => x.1.1) = List.range q → putC (pic s zc) pre = pic s (gf (cwF k) q)
  | 0, pre, _, h => by
    have : pre = [] := by simpa using h
    rw [this, gf_zero]; rfl
  | q + 1, pre, hq, h => by
    have hl : pre.length = q + 1 := by have := congrArg List.length h; simpa using this
    obtain ⟨ini, x, rfl⟩ : ∃ ini x, pre = ini ++ [x] := by
      rcases List.eq_nil_or_concat pre with rfl | ⟨ini, x, h⟩
      · simp at hl
      · exact ⟨ini, x, by rw [h]; simp⟩
    rw [List.map_append, List.range_succ] at h
    obtain ⟨h1, h2⟩ := List.append_inj' h rfl
    have hx : x.1.1 = q := by simpa using h2
    rw [putC_snoc, putC_all s k hn q ini (by omega) h1]
    have h3 : x.1.2 = wal k x.1.1 := x.2.2
    rw [h3, hx, ← gf_set s (cwF k) q (by omega)]
    rfl

set_option maxRecDepth 100000 in
set_option maxHeartbeats 4000000 in
theorem implCw_yes (s k : Nat) (hs : side (s : Int) = true) (hk : k < s * s) : Wave2 17 s k s (gf (cwF k) (s * s)) 0 := by
  intro w
  have hz37 := (zero_of_info info37').1
  have HS37 := Lib.hid (zero_of_info info37').2
  have HZ37 : Hid ((pic 0 zc).size = 65) := Lib.hid (pic_size 0 zc zc_size)
  have HE37 : Hid ((pic s zc).size = 65) := Lib.hid (pic_size s zc zc_size)
  have HE1 : Hid ((pic s zc).all (·.oneCell') = true) := Lib.hid (zc_one s)
  have HEI : Hid ((Tryd.prog.info? 35).map (·.size) = some (pic s zc).size) := Lib.hid (by rw [HE37.out]; exact HS37.out)
  have HZE : Hid ((pic 0 zc).size = (pic s zc).size) := Lib.hid (by rw [HZ37.out, HE37.out])
  have hne := pic_ne
  have hss : s * s ≤ 64 := sq_le2 s hs
  have hsq : (s : Int) * s = ((s * s : Nat) : Int) := by rw [Int.natCast_mul]
  have e1 : IntKind.i64.wrap ((s : Int) * s) = ((s * s : Nat) : Int) := (IntWalk.i64_in _ (by omega)).trans hsq
  have e2 : IntKind.i64.wrap (((s * s : Nat) : Int) - 1) = ((s * s : Nat) : Int) - 1 := IntWalk.i64_in _ (by omega)
  have hin : (decide ((0 : Int) ≤ (k : Int)) && decide ((k : Int) ≤ ((s * s : Nat) : Int) - 1)) = true := by
    simp only [Bool.and_eq_true, decide_eq_true_eq]
    omega
  have HSD : Hid (∀ z, Calls Tryd.prog 50 #[.int .i64 (s : Int)] z fun e w' => e = .returned (.bool true) ∧ z = w') := Lib.hid (fun z => by rw [← hs]; exact isSide_any _ z)
  have HIN : Hid (∀ z, Calls Tryd.prog 36 #[.int .i64 0, .int .i64 (k : Int), .int .i64 (((s * s : Nat) : Int) - 1)] z fun e w' => e = .returned (.bool true) ∧ z = w') := Lib.hid (fun z => by rw [← hin]; exact between_b 0 _ _ z)
  have HWL := Lib.hid (fun w => walshB_any (s * s) k hss (by omega) w)
  have HALL : Hid (∀ xs : List (Pt (s * s) (fun j v => v = wal k j)), xs.map (fun x => x.1.1) = List.range (s * s) → putC (pic s zc) xs = pic s (gf (cwF k) (s * s))) := Lib.hid (fun xs h => putC_all s k hss (s * s) xs (Nat.le_refl _) h)
  have HONE : Hid ((pic s (gf (cwF k) (s * s))).all (·.oneCell') = true) := Lib.hid (finW_one (gf_fin s _ (cwF_fin k) _))
  have HPS : Hid ((pic s (gf (cwF k) (s * s))).size = 65) := Lib.hid (pic_size _ _ (gf_size _ _))
  have HCX : Hid (CxA (pic s zc)) := Lib.hid (fun i hi => ⟨0, 0, by rw [Nat.add_comm, pic_succ, ← gf_zero (cwF k), gf_get, if_pos hi]; rfl⟩)
  have hzs : (pic 0 zc).setIfInBounds 0 (.int .i64 s) = pic s zc := by
    apply Array.ext_getElem?
    intro i
    rw [Array.getElem?_setIfInBounds, pic_size 0 zc zc_size]
    cases i with
    | zero => rw [if_pos rfl, if_pos (by omega), pic_zero]
    | succ i => rw [if_neg (by omega), pic_succ, pic_succ]
  generalize pic s (gf (cwF k) (s * s)) = FIN at *
  obtain ⟨E, hE⟩ : ∃ E, E = pic s zc := ⟨_, rfl⟩
  rw [← hE] at HE37 HE1 HEI HZE HALL HCX hzs
  have HEE := Lib.hid hE
  generalize pic 0 zc = Z at *
  clear hin hs hk hsq hE
  generalize s * s = N at *
  have HZI : Hid ((Tryd.prog.info? 35).map (·.size) = some Z.size) := Lib.hid (by rw [HZ37.out]; exact HS37.out)
  refine (callsIn_wide (n := 10)).1 ?_
  refine callsIn_of_wp_marks Tryd.func17 rfl trivial ?_ rfl
  simp only [Tryd.ntmps17, List.size_toArray, List.length_cons, List.length_nil, Nat.reduceAdd, Nat.reduceSub, Array.replicate_succ, Array.replicate_zero, List.push_toArray, List.append_toArray, List.nil_append, List.cons_append]
  refine wpIn_wide.2 ?_
  go_wp2_with fail
  refine (HSD.out _).mono ?_
  rintro e w' ⟨rfl, rfl⟩
  go_wp2_with fail
  refine (HIN.out _).mono ?_
  rintro e w' ⟨rfl, rfl⟩
  go_wp2_with (refine wpList_store_row rfl 35 (.tmp 6) (.tmp 23) rfl (w.heap.size + 1) E rfl rfl 35 Z (h2_1 _ _ _) HEI.out HZE.out HE1.out ?_)
  have GG : Hid ((((w.alloc (.cells Z 35)).alloc (.cells Z 35)).setRow (w.heap.size + 1) E).heap[w.heap.size + 1]? = some (.cells E 35 (0, 0))) := Lib.hid (setRow_heap _ _ _ _ _ _ (h2_1 _ _ _))
  have GZ : Hid ((((w.alloc (.cells Z 35)).alloc (.cells Z 35)).setRow (w.heap.size + 1) E).heap[w.heap.size]? = some (.cells Z 35 (0, 0))) := Lib.hid (by rw [setRow_other _ _ _ _ (by omega), heap_alloc_old _ _ (by rw [size_al]; omega)]; exact h1_0 _ _)
  have BV : Hid (Below w.heap.size w (((w.alloc (.cells Z 35)).alloc (.cells Z 35)).setRow (w.heap.size + 1) E)) := Lib.hid (below_setRow (((Below.refl _ _).alloc (Nat.le_refl _) _).alloc (by rw [size_al]; omega) _) (by omega) _)
  generalize ((w.alloc (.cells Z 35)).alloc (.cells Z 35)).setRow (w.heap.size + 1) E = V at *
  refine (HWL.out V).mono ?_
  rintro e w3 ⟨⟨lb, rfl, hS⟩, hb⟩
  have HS := Lib.hid hS
  have hgg : w3.heap[w.heap.size + 1]? = some (.cells E 35 (0, 0)) := by rw [hb.block _ (Array.getElem?_eq_some_iff.1 GG.out).1]; exact GG.out
  have hgz : w3.heap[w.heap.size]? = some (.cells Z 35 (0, 0)) := by rw [hb.block _ (Array.getElem?_eq_some_iff.1 GZ.out).1]; exact GZ.out
  have hb3 : Below w.heap.size w w3 := BV.out.trans (hb.mono BV.out.size)
  have G3 := Lib.hid hgg
  have Z3 := Lib.hid hgz
  have B3 := Lib.hid hb3
  have HLT : Hid (w.heap.size + 1 < V.heap.size ∧ V.heap.size ≤ w3.heap.size) := Lib.hid ⟨(Array.getElem?_eq_some_iff.1 GG.out).1, hb.size⟩
  clear hS hb hgg hgz hb3 GG GZ BV hne hz37
  go_wp2_with fail
  refine (wpIn_wide (n := 10)).1 ?_
  refine wpIn_rangeFunc_ownG rfl (by omega) (gf := 80) (lb := lb) rfl trivial (enters_of Tryd.func80 (by kernel_rfl) rfl)
    (Kp := Btw V.heap.size w3.heap.size) HS.out Btw.trans (btw_b (Nat.le_refl _)) (Below.refl _ _) (fun _ => rfl)
    (fun pre W => W.heap[w.heap.size + 1]? = some (.cells (putC E pre) 35 (0, 0)) ∧ W.heap[w.heap.size]? = some (.cells Z 35 (0, 0)) ∧ Below w.heap.size w W)
    (fun _ _ _ => False)
    (fun pre A B row hs hg hr => ⟨row_turn hs.1 hg (fun r e => (hr r e).2), row_turn hs.2.1 hg (fun r e => (hr r e).2), hs.2.2.grown hg hs.2.2.size (fun k e => Nat.le_trans B3.out.size (hr k e).1)⟩)
    (fun _ _ _ _ _ hs _ _ => hs)
    ⟨G3.out, Z3.out, B3.out⟩
    (fun x => { tmps := #[.int .i64 s, .int .i64 k, undef, undef, .pointer (some ⟨w.heap.size, 0, none⟩), .int .i64 0, .pointer (some ⟨w.heap.size + 1, 0, none⟩), .int .i64 (x.1.1 : Int), .float .f32 x.1.2, .int .i64 s, .bool true, .bool false, .bool false, .int .i64 k, .int .i64 s, .int .i64 s, .int .i64 N, .int .i64 ((N : Int) - 1), .bool true, .bool false, .bool false, undef, .int .i64 s, .agg E, .int .i64 s, .int .i64 s, .int .i64 N, .int .i64 k, .func (.func 80) #[] lb, .int .i64 (x.1.1 : Int), .float .f32 x.1.2, undef, undef, undef, undef, undef, undef], defers := [] }) ?assign ?body ?done ?stop
  case assign =>
    intro l x W K hK
    gi_wp2
    exact hK
  case body =>
    rintro l pre x W ⟨hg, hz, hB⟩ _
    have hx := x.2.1
    have hx64 : x.1.1 < 64 := by omega
    obtain ⟨a, b, hab⟩ := putC_cx HCX.out pre x.1.1 hx64
    have hold : W.cell? ⟨w.heap.size + 1, 1 + x.1.1, none⟩ = some (.complex .f32 a b) := by rw [cell_of_row _ _ _ _ _ _ hg]; exact hab
    have hfree : W.frozen? ⟨w.heap.size + 1, 1 + x.1.1, none⟩ = false := frozen_of_row _ _ _ _ _ hg
    have HG := Lib.hid hg
    have HZ := Lib.hid hz
    have HB := Lib.hid hB
    have HSN := Lib.hid (putC_snoc E pre x)
    clear hg hz hB hab
    gi_wp2
    exact ⟨(KeepsOthers.setCell _ _ _).from _, btw_set W _ HLT.out.1, by rw [HSN.out]; exact heap_setCell_same _ _ _ _ _ _ HG.out, by rw [heap_setCell_other _ _ _ _ (by show w.heap.size ≠ w.heap.size + 1; omega)]; exact HZ.out, HB.out.setCell (p := ⟨w.heap.size + 1, 1 + x.1.1, none⟩) (by show w.heap.size ≤ w.heap.size + 1; omega) _⟩
  case done =>
    rintro D xs W hD hxs ⟨hg, hz, hB⟩ hK
    rw [HALL.out xs hxs] at hg
    have HG := Lib.hid hg
    have HZ := Lib.hid hz
    have HB := Lib.hid hB
    have HCI : Hid ((Tryd.prog.info? 35).map (·.size) = some FIN.size) := Lib.hid (by rw [HPS.out]; exact HS37.out)
    have HZC : Hid (Z.size = FIN.size) := Lib.hid (by rw [HPS.out]; exact HZ37.out)
    clear hg hz hB
    go_wp2_with (first | (refine wpList_load_row rfl 35 (.tmp 6) rfl (w.heap.size + 1) rfl 35 FIN (0, 0) _ HG.out Tryd.underlying35 rfl HCI.out ?_) | (refine wpList_store_row rfl 35 (.tmp 4) (.tmp 36) rfl w.heap.size FIN rfl rfl 35 Z HZ.out HCI.out HZC.out HONE.out ?_))
    have HK : Hid ((W.setRow w.heap.size FIN).heap[D]? = some (.deferred (some []))) := Lib.hid (by rw [setRow_other _ _ _ _ (by have := HLT.out; omega)]; exact hK)
    refine ⟨by simp, .inl ⟨_, _, rfl, run_takeDeferred HK.out, ?_⟩⟩
    refine ⟨.tuple #[.agg FIN, .int .i64 0], results_row_tmp (fn := Tryd.f17) (p := 4) (u := 5) (ty := 35) rfl _ _ w.heap.size 35 FIN (0, 0) _ rfl ((World.putObj_heap_other (by have := HLT.out; omega)).trans (setRow_heap _ _ _ _ _ _ HZ.out)) Tryd.underlying35 rfl HCI.out, rfl, ?_⟩
    exact (below_setRow HB.out (Nat.le_refl _) _).trans (belowK_b (w := w) (Nat.le_refl _) _ D _ _ (by have := HLT.out; omega) HK.out rfl rfl)
  case stop =>
    rintro D c pre W _ _ h _
    exact h.elim

set_option maxRecDepth 100000 in
set_option maxHeartbeats 800000 in
theorem implCw_side (n k : Int) (h : side n = false) : Wave2 17 n k 0 zc 2 := by
  intro w
  have hz37 := (zero_of_info info37').1
  have HI : Hid ((Tryd.prog.info? 35).map (·.size) = some (pic 0 zc).size) := Lib.hid (by rw [pic_size 0 zc zc_size]; exact (zero_of_info info37').2)
  have H1 := Lib.hid (zc_one 0)
  have hne := pic_ne
  have HSD : Hid (∀ z, Calls Tryd.prog 50 #[.int .i64 n] z fun e w' => e = .returned (.bool false) ∧ z = w') := Lib.hid (fun z => by rw [← h]; exact isSide_any n z)
  generalize pic 0 zc = Z at *
  clear h
  go_enter Tryd.func17, Tryd.ntmps17
  go_wp2_with fail
  refine (HSD.out _).mono ?_
  rintro e w' ⟨rfl, rfl⟩
  go_wp2_with (refine wpList_store_row rfl 35 (.tmp 4) (.tmp 21) rfl w.heap.size Z rfl rfl 35 Z (h1_0 _ _) HI.out rfl H1.out ?_)
  refine bodyPost_ret (v := .tuple #[.agg Z, .int .i64 2]) (results_row_tmp (fn := Tryd.f17) (p := 4) (u := 5) (ty := 35) rfl _ _ w.heap.size 35 Z (0, 0) _ rfl (setRow_heap _ _ _ _ _ _ (h1_0 _ _)) Tryd.underlying35 rfl HI.out) rfl ⟨rfl, ?_⟩
  exact below_setRow ((Below.refl _ _).alloc (Nat.le_refl _) _) (Nat.le_refl _) _

set_option maxRecDepth 100000 in
set_option maxHeartbeats 800000 in
theorem implCw_out (s : Nat) (k : Int) (hs : side (s : Int) = true) (h : (decide (0 ≤ k) && decide (k ≤ (s : Int) * s - 1)) = false) : Wave2 17 s k 0 zc 2 := by
  intro w
  have hz37 := (zero_of_info info37').1
  have HI : Hid ((Tryd.prog.info? 35).map (·.size) = some (pic 0 zc).size) := Lib.hid (by rw [pic_size 0 zc zc_size]; exact (zero_of_info info37').2)
  have H1 := Lib.hid (zc_one 0)
  have hne := pic_ne
  have hss : s * s ≤ 64 := sq_le2 s hs
  have hsq : (s : Int) * s = ((s * s : Nat) : Int) := by rw [Int.natCast_mul]
  have e1 : IntKind.i64.wrap ((s : Int) * s) = ((s * s : Nat) : Int) := (IntWalk.i64_in _ (by omega)).trans hsq
  have e2 : IntKind.i64.wrap (((s * s : Nat) : Int) - 1) = ((s * s : Nat) : Int) - 1 := IntWalk.i64_in _ (by omega)
  rw [hsq] at h
  have HSD : Hid (∀ z, Calls Tryd.prog 50 #[.int .i64 (s : Int)] z fun e w' => e = .returned (.bool true) ∧ z = w') := Lib.hid (fun z => by rw [← hs]; exact isSide_any _ z)
  have HIN : Hid (∀ z, Calls Tryd.prog 36 #[.int .i64 0, .int .i64 k, .int .i64 (((s * s : Nat) : Int) - 1)] z fun e w' => e = .returned (.bool false) ∧ z = w') := Lib.hid (fun z => by rw [← h]; exact between_b 0 k _ z)
  generalize pic 0 zc = Z at *
  clear h hs hsq hss
  generalize ((s * s : Nat) : Int) = sq at *
  go_enter Tryd.func17, Tryd.ntmps17
  go_wp2_with fail
  refine (HSD.out _).mono ?_
  rintro e w' ⟨rfl, rfl⟩
  go_wp2_with fail
  refine (HIN.out _).mono ?_
  rintro e w' ⟨rfl, rfl⟩
  go_wp2_with (refine wpList_store_row rfl 35 (.tmp 4) (.tmp 21) rfl w.heap.size Z rfl rfl 35 Z (h1_0 _ _) HI.out rfl H1.out ?_)
  refine bodyPost_ret (v := .tuple #[.agg Z, .int .i64 2]) (results_row_tmp (fn := Tryd.f17) (p := 4) (u := 5) (ty := 35) rfl _ _ w.heap.size 35 Z (0, 0) _ rfl (setRow_heap _ _ _ _ _ _ (h1_0 _ _)) Tryd.underlying35 rfl HI.out) rfl ⟨rfl, ?_⟩
  exact below_setRow ((Below.refl _ _).alloc (Nat.le_refl _) _) (Nat.le_refl _) _

theorem implCw (n k : Int) : Wave2 17 n k (cwS n k) (cwZ n k) (cwC n k) := by
  cases ho : cwOk n k
  · obtain ⟨e1, e2, e3⟩ := cw_no ho
    rw [e1, e2, e3]
    cases hs : side n
    · exact implCw_side n k hs
    · unfold cwOk at ho
      rw [hs, Bool.true_and] at ho
      obtain ⟨s, rfl⟩ : ∃ s : Nat, n = s := ⟨n.toNat, by rcases side_yes n hs with rfl | rfl | rfl | rfl <;> rfl⟩
      exact implCw_out s k hs ho
  · obtain ⟨e1, e2, e3⟩ := cw_yes ho
    rw [e1, e2, e3]
    unfold cwOk at ho
    simp only [Bool.and_eq_true, decide_eq_true_eq] at ho
    obtain ⟨hs, h0, h1⟩ := ho
    obtain ⟨s, rfl⟩ : ∃ s : Nat, n = s := ⟨n.toNat, by rcases side_yes n hs with rfl | rfl | rfl | rfl <;> rfl⟩
    obtain ⟨q, rfl⟩ : ∃ q : Nat, k = q := ⟨k.toNat, by omega⟩
    rw [Int.toNat_natCast, Int.toNat_natCast]
    have hsq : (s : Int) * s = ((s * s : Nat) : Int) := by rw [Int.natCast_mul]
    exact implCw_yes s q hs (by omega)

end Go.Proofs.YtclflnpbiiimiaaDoor
