/- UnwrapFlood: what the model answers where it unwraps. Condition: a list that a law lets in, 64 complex numbers. -/
import Derived.Test.YtjmfffgddmnkmacFdg
import Derived.Deep.CutBlock
import Derived.Deep.DeepCutAuto
namespace Go.Proofs.Ytjmfffgddmnkmac
open Go Go.RowKit
attribute [local go_sem ↓] Go.wp_at_zero Go.wp_at_succ

/-- where the model's flood lies: heights, cells that are met, ways, queue -/
def SpM (B g h rb cb db N : Nat) (D : Array Value) (s : FS) (qv : Value) (w : World) : Prop :=
  Own B (.slice (some ⟨g, 0, none⟩) N N) s.H w ∧ (∃ ms, w.heap[h]? = some (.cells ms 4 (0, 0)) ∧ ms.size = N ∧ ∀ i, i < N → ∃ b, ms[i]? = some (.bool b) ∧ s.U.getD i false = (!b && open_ D i)) ∧
    w.heap[rb]? = some (.cells #[.int .i64 0, .int .i64 1, .int .i64 0, .int .i64 (-1)] 2 (0, 0)) ∧ w.heap[cb]? = some (.cells #[.int .i64 1, .int .i64 0, .int .i64 (-1), .int .i64 0] 2 (0, 0)) ∧
    Qu B qv s.Q w ∧ (g ≠ h ∧ rb ≠ g ∧ rb ≠ h ∧ cb ≠ g ∧ cb ≠ h ∧ B ≤ g ∧ B ≤ h ∧ B ≤ rb ∧ B ≤ cb) ∧ qv.ownBlock ≠ some g ∧ qv.ownBlock ≠ some h ∧ qv.ownBlock ≠ some rb ∧ qv.ownBlock ≠ some cb ∧ w.heap[db]? = some (.cells D 33 (0, 0)) ∧ db ≠ g ∧ db ≠ h ∧ qv.ownBlock ≠ some db

theorem SpM.below {B g h rb cb db N C : Nat} {D : Array Value} {s : FS} {qv : Value} {w u : World} (k : SpM B g h rb cb db N D s qv w) (b : Below C w u) (hC : w.heap.size ≤ C) : SpM B g h rb cb db N D s qv u := by
  obtain ⟨a1, ⟨ms, a2, a3, a4⟩, a5, a6, a7, a8, a9, a10, a11, a12, a13, a14⟩ := k
  exact ⟨a1.below b hC, ⟨ms, by rw [b.block h (by have := (Array.getElem?_eq_some_iff.1 a2).1; omega)]; exact a2, a3, a4⟩, by rw [b.block rb (by have := (Array.getElem?_eq_some_iff.1 a5).1; omega)]; exact a5, by rw [b.block cb (by have := (Array.getElem?_eq_some_iff.1 a6).1; omega)]; exact a6, a7.below b hC, a8, a9, a10, a11, a12, by rw [b.block db (by have := (Array.getElem?_eq_some_iff.1 a13).1; omega)]; exact a13, a14⟩
theorem spM_hop {B g h rb cb db N P : Nat} {x : Int} {D : Array Value} {t : FS} {qv qv' : Value} {w W : World} (k : SpM B g h rb cb db N D t qv w) (hP : P < N) (hu : t.U.getD P false = true)
    (hO : Own B (.slice (some ⟨g, 0, none⟩) N N) (t.H.set P x) W) (hH : ∀ ms, w.heap[h]? = some (.cells ms 4 (0, 0)) → W.heap[h]? = some (.cells (ms.setIfInBounds P (.bool true)) 4 (0, 0)))
    (hB : ∀ j, j < w.heap.size → j ≠ g → j ≠ h → qv.ownBlock ≠ some j → W.heap[j]? = w.heap[j]?) (hQ : Qu B qv' (t.Q ++ [(P : Int)]) W) (hF : ∀ j, j < w.heap.size → qv.ownBlock ≠ some j → qv'.ownBlock ≠ some j) :
    SpM B g h rb cb db N D ⟨t.H.set P x, t.U.set P false, t.Q ++ [(P : Int)]⟩ qv' W := by
  have hPu := getD_true_lt hu
  obtain ⟨a1, ⟨ms, a2, a3, a4⟩, a5, a6, a7, a8, a9, a10, a11, a12, a13, a14, a15, a16⟩ := k
  have lh := (Array.getElem?_eq_some_iff.1 a2).1
  have lr := (Array.getElem?_eq_some_iff.1 a5).1
  have lc := (Array.getElem?_eq_some_iff.1 a6).1
  have ld := (Array.getElem?_eq_some_iff.1 a13).1
  have lg : g < w.heap.size := by
    obtain ⟨g', c', e', _, h'⟩ := a1.form (by have := hO.1; have h9 : (t.H.set P x).length = N := by obtain ⟨e, _⟩ := Own.cap hO; exact e.symm
                                              rw [List.length_set] at h9; omega)
    simp only [Value.slice.injEq, Option.some.injEq, Addr.mk.injEq, and_true] at e'
    omega
  refine ⟨hO, ⟨_, hH ms a2, by rw [Array.size_setIfInBounds]; exact a3, fun i hi => ?_⟩, (hB rb lr a8.2.1 a8.2.2.1 a11).trans a5, (hB cb lc a8.2.2.2.1 a8.2.2.2.2.1 a12).trans a6, hQ, a8, hF g lg a9, hF h lh a10, hF rb lr a11, hF cb lc a12, (hB db ld a14 a15 a16).trans a13, a14, a15, hF db ld a16⟩
  by_cases e : P = i
  · subst e
    exact ⟨true, by rw [Array.getElem?_setIfInBounds_self_of_lt (by omega)], by show (t.U.set P false).getD P false = _; rw [getD_set_same _ _ _ _ hPu]; rfl⟩
  · obtain ⟨b, b1, b2⟩ := a4 i hi
    exact ⟨b, by rw [Array.getElem?_setIfInBounds_ne e]; exact b1, by show (t.U.set P false).getD i false = _; rw [getD_set_ne _ _ _ _ _ e]; exact b2⟩
theorem info4 : (Try.prog.info? 4).map (fun i => (i.zero, i.size, i.bytes)) = some (some (.bool false), 1, 1) := by kernel_rfl
set_option maxRecDepth 100000 in
theorem madeInts (s : Nat) (hs : s ≤ 64) (v : World) : (Instr.makeSlice 24 (.int .i64 s) (.int .i64 s)).run Try.prog v = .ok (.slice (some ⟨v.heap.size, 0, none⟩) s s) (v.alloc (.cells (Array.replicate s (.int .i64 0)) 2)) := by
  obtain ⟨i, hi, e2⟩ := Option.map_eq_some_iff.1 info64
  have hz : i.zero = some (.int .i64 0) := congrArg (·.1) e2
  have hs1 : i.size = 1 := congrArg (·.2.1) e2
  have hb : i.bytes = 8 := congrArg (·.2.2) e2
  have h := run_makeSlice (P := Try.prog) v 24 2 i (.int .i64 0) Try.underlying24 hi hz .i64 .i64 s s (by omega) (by omega) (by rw [hs1, Int.toNat_natCast]; omega) (by rw [hb]; omega) (by omega)
  rw [h, Int.toNat_natCast, hs1, Nat.mul_one]
  congr 2
  refine congrArg (fun z => Obj.cells z 2) ?_
  apply Array.ext'
  rw [Array.toList_replicate]
  exact toList_madeCells_one _ _
set_option maxRecDepth 100000 in
theorem madeBools (s : Nat) (hs : s ≤ 64) (v : World) : (Instr.makeSlice 84 (.int .i64 s) (.int .i64 s)).run Try.prog v = .ok (.slice (some ⟨v.heap.size, 0, none⟩) s s) (v.alloc (.cells (Array.replicate s (.bool false)) 4)) := by
  obtain ⟨i, hi, e2⟩ := Option.map_eq_some_iff.1 info4
  have hz : i.zero = some (.bool false) := congrArg (·.1) e2
  have hs1 : i.size = 1 := congrArg (·.2.1) e2
  have hb : i.bytes = 1 := congrArg (·.2.2) e2
  have h := run_makeSlice (P := Try.prog) v 84 4 i (.bool false) Try.underlying84 hi hz .i64 .i64 s s (by omega) (by omega) (by rw [hs1, Int.toNat_natCast]; omega) (by rw [hb]; omega) (by omega)
  rw [h, Int.toNat_natCast, hs1, Nat.mul_one]
  congr 2
  refine congrArg (fun z => Obj.cells z 4) ?_
  apply Array.ext'
  rw [Array.toList_replicate]
  exact toList_madeCells_one _ _
theorem heapA (u : World) (A B C : Obj) : ((((u.alloc A).alloc B).alloc C).drew).heap[u.heap.size]? = some A := by
  have h1 : u.heap.size < (u.alloc A).heap.size := by rw [World.size_alloc]; omega
  have h2 : u.heap.size < ((u.alloc A).alloc B).heap.size := by rw [World.size_alloc]; omega
  exact (Below.heap_alloc _ _ _ h2).trans ((Below.heap_alloc _ _ _ h1).trans (heap_alloc_new u A))
theorem heapB (u : World) (A B C : Obj) : ((((u.alloc A).alloc B).alloc C).drew).heap[u.heap.size + 1]? = some B := by
  have h2 : u.heap.size + 1 < ((u.alloc A).alloc B).heap.size := by rw [World.size_alloc, World.size_alloc]; omega
  have h3 := heap_alloc_new (u.alloc A) B
  rw [World.size_alloc] at h3
  exact (Below.heap_alloc _ _ _ h2).trans h3
theorem heapC (u : World) (A B C : Obj) : ((((u.alloc A).alloc B).alloc C).drew).heap[u.heap.size + 1 + 1]? = some C := by
  have h3 := heap_alloc_new ((u.alloc A).alloc B) C
  rw [World.size_alloc, World.size_alloc] at h3
  exact h3
theorem belowABC (u : World) (A B C : Obj) : Below u.heap.size u ((((u.alloc A).alloc B).alloc C).drew) :=
  ((((Below.refl _ _).alloc (Nat.le_refl _) A).alloc (by rw [World.size_alloc]; omega) B).alloc (by rw [World.size_alloc, World.size_alloc]; omega) C).drew
theorem own_rep {B g N : Nat} {w : World} (h : w.heap[g]? = some (.cells (Array.replicate N (.int .i64 0)) 2 (0, 0))) (hB : B ≤ g) (hN : N ≤ 64) : Own B (.slice (some ⟨g, 0, none⟩) N N) (List.replicate N 0) w :=
  ⟨by simp, .inr ⟨g, N, _, by rw [List.length_replicate], hB, h, by simp, by unfold maxLen; omega, by simp, by simp⟩⟩
theorem spM_start {B g mb qb db N q : Nat} {L : List Int} {D : Array Value} {W : World} (hq : q < N) (hN : N ≤ 64) (hO : Own B (.slice (some ⟨g, 0, none⟩) N N) ((List.replicate N 0).set q (L.getD q 0)) W)
    (hH : W.heap[mb]? = some (.cells ((Array.replicate N (Value.bool false)).setIfInBounds q (.bool true)) 4 (0, 0))) (hQ : W.heap[qb]? = some (.cells #[.int .i64 (q : Int)] 2 (0, 0)))
    (h1 : g ≠ mb) (h2 : g ≠ qb) (h3 : mb ≠ qb) (h4 : B ≤ g) (h5 : B ≤ mb) (h6 : B ≤ qb) (h7 : W.heap[db]? = some (.cells D 33 (0, 0))) (h8 : db ≠ g ∧ db ≠ mb ∧ qb ≠ db) :
    SpM B g mb W.heap.size (W.heap.size + 1) db N D (flo0 N q L (open_ D)) (.slice (some ⟨qb, 0, none⟩) 1 1) ((W.alloc (.cells #[.int .i64 0, .int .i64 1, .int .i64 0, .int .i64 (-1)] 2)).alloc (.cells #[.int .i64 1, .int .i64 0, .int .i64 (-1), .int .i64 0] 2)) := by
  have lh := (Array.getElem?_eq_some_iff.1 hH).1
  have lq := (Array.getElem?_eq_some_iff.1 hQ).1
  have lg : g < W.heap.size := by
    obtain ⟨g', c', e', _, h'⟩ := hO.form (by rw [List.length_set, List.length_replicate]; omega)
    simp only [Value.slice.injEq, Option.some.injEq, Addr.mk.injEq, and_true] at e'
    omega
  have e1 := heap_alloc_new W (.cells #[.int .i64 0, .int .i64 1, .int .i64 0, .int .i64 (-1)] 2 (0, 0))
  have e2 := heap_alloc_new (W.alloc (.cells #[.int .i64 0, .int .i64 1, .int .i64 0, .int .i64 (-1)] 2 (0, 0))) (.cells #[.int .i64 1, .int .i64 0, .int .i64 (-1), .int .i64 0] 2 (0, 0))
  rw [World.size_alloc] at e2
  have old : ∀ k, k < W.heap.size → ((W.alloc (.cells #[.int .i64 0, .int .i64 1, .int .i64 0, .int .i64 (-1)] 2 (0, 0))).alloc (.cells #[.int .i64 1, .int .i64 0, .int .i64 (-1), .int .i64 0] 2 (0, 0))).heap[k]? = W.heap[k]? := fun k hk =>
    (Below.heap_alloc _ _ _ (by rw [World.size_alloc]; omega)).trans (Below.heap_alloc _ _ _ hk)
  have hQu : Qu B (.slice (some ⟨qb, 0, none⟩) 1 1) [(q : Int)] W := ⟨qb, 0, 1, _, rfl, h6, hQ, Nat.le_refl _, by unfold maxLen; omega, Nat.le_refl _, fun i hi => by
    simp only [List.length_singleton] at hi
    obtain rfl : i = 0 := by omega
    rfl⟩
  refine ⟨(hO.alloc _).alloc _, ⟨_, (old mb lh).trans hH, by simp, fun i hi => ?_⟩, ?_, e2, (hQu.alloc _).alloc _, ⟨h1, by omega, by omega, by omega, by omega, h4, h5, by omega, by omega⟩, ?_, ?_, ?_, ?_, (old db (Array.getElem?_eq_some_iff.1 h7).1).trans h7, h8.1, h8.2.1, ?_⟩
  · show ∃ b, _ ∧ (((List.range 64).map (open_ D)).set q false).getD i false = _
    by_cases e : q = i
    · subst e
      refine ⟨true, by rw [Array.getElem?_setIfInBounds_self_of_lt (by simp; omega)], ?_⟩
      rw [getD_set_same _ _ _ _ (by simp; omega)]; rfl
    · refine ⟨false, by rw [Array.getElem?_setIfInBounds_ne e, Array.getElem?_replicate, if_pos hi], ?_⟩
      rw [getD_set_ne _ _ _ _ _ e, range_get _ _ (by omega)]; rfl
  · exact (Below.heap_alloc _ _ _ (by rw [World.size_alloc]; omega)).trans e1
  all_goals (intro e; simp only [Value.ownBlock, Option.some.injEq] at e; omega)
theorem own_setOther2 {B g n cap p j : Nat} {U : List Int} {w : World} {x : Value} (h : Own B (.slice (some ⟨g, 0, none⟩) n cap) U w) (hp : p ≠ g) : Own B (.slice (some ⟨g, 0, none⟩) n cap) U (w.setCell ⟨p, j, none⟩ x) :=
  World.ownsRow.kept h (row := some p) ⟨rfl, rfl, rfl, by show _ ≤ (w.setCell _ _).heap.size; rw [World.size_setCell]; exact Nat.le_refl _, fun k _ hne => Below.heap_setCell _ _ _ _ (fun e => hne (by rw [e]))⟩ (.inr (fun e => hp (by simp only [Value.ownBlock, Option.some.injEq] at e; exact e.symm)))
theorem way_cells (i : Nat) (hi : i < 4) : (#[Value.int .i64 0, .int .i64 1, .int .i64 0, .int .i64 (-1)] : Array Value)[i]? = some (.int .i64 (wayY i)) ∧ (#[Value.int .i64 1, .int .i64 0, .int .i64 (-1), .int .i64 0] : Array Value)[i]? = some (.int .i64 (wayX i)) := by
  obtain rfl | rfl | rfl | rfl : i = 0 ∨ i = 1 ∨ i = 2 ∨ i = 3 := by omega
  all_goals exact ⟨rfl, rfl⟩

set_option maxRecDepth 100000 in
set_option maxHeartbeats 12800000 in
theorem specFl_yes (n s y x : Int) (L : List Int) (D : Array Value) (h1 : isMap n L = true) (h2 : isMsk s D = true) (h3 : s = n) (h4 : inS n y = true) (h5 : inS n x = true) (h6 : L.all isW = true) (h7 : open_ D (n.toNat * y.toNat + x.toNat) = true) : Floods 16 n s y x L D (resFl n.toNat L.length (n.toNat * y.toNat + x.toNat) L (open_ D)) 0 := by
  subst h3
  intro hn hD v w hO
  obtain ⟨a, cap, rfl, hC⟩ := hO.came
  have HI := Lib.hid (fun W (h : Below w.heap.size w W) => l07Code_any s a L.length cap L W (hC.below h (Nat.le_refl _)) hn)
  have HM := Lib.hid (specMsk_any s D hD)
  have HDI : Hid ((Try.prog.info? 33).map (·.size) = some D.size) := Lib.hid (by rw [hD.1]; exact (zero_of_info info37').2)
  have B0 : Hid (Below w.heap.size w (w.alloc (.cells D 33))) := Lib.hid ((Below.refl _ _).alloc (Nat.le_refl _) _)
  have G0 : Hid ((w.alloc (.cells D 33)).heap[w.heap.size]? = some (.cells D 33 (0, 0))) := Lib.hid (h1_0 _ _)
  have HLT : Hid (w.heap.size < (w.alloc (.cells D 33)).heap.size) := Lib.hid (by rw [World.size_alloc]; omega)
  have HS0 := Lib.hid hD.2.1
  obtain ⟨m, rfl, hm1, hm8, hlen⟩ := isMap_nat h1
  obtain ⟨yn, rfl, hyn⟩ := inS_nat h4
  obtain ⟨xn, rfl, hxn⟩ := inS_nat h5
  have hN64 : L.length ≤ 64 := map_le h1
  have hPN := place_in hlen.symm hyn hxn
  obtain ⟨q, hq⟩ : ∃ q, m * yn + xn = q := ⟨_, rfl⟩
  obtain ⟨X, hX⟩ : ∃ X, m * yn = X := ⟨_, rfl⟩
  have hw1 : IntKind.i64.wrap ((m : Int) * (yn : Int)) = (X : Int) := by rw [← Int.natCast_mul, hX]; exact IntWalk.i64_in _ (by omega)
  have hw2 : IntKind.i64.wrap ((X : Int) + (xn : Int)) = (q : Int) := by rw [← hX, ← hq, Int.natCast_add]; exact IntWalk.i64_in _ (by omega)
  rw [hq] at hPN
  have hq64 : (q : Int) < 64 := by omega
  have hq0 : (0 : Int) ≤ (q : Int) := by omega
  have e0 : codeW (m : Int) L = 0 := by unfold codeW; rw [h1, h6]; rfl
  rw [e0] at HI
  have hne : (((m : Nat) : Int) != (m : Int)) = false := by simp
  have hn1 : IntKind.i64.wrap ((m : Int) - 1) = (m : Int) - 1 := IntWalk.i64_in _ (by omega)
  have HZ : Hid (∀ k, k < 64 → ∃ re im, D[1 + k]? = some (.complex .f32 re im) ∧ (FloatKind.f32.format.order re 0 == some .eq && FloatKind.f32.format.order im 0 == some .eq) = !open_ D k) := Lib.hid (fun k hk => by
    obtain ⟨re, im, hz⟩ := hD.2.2 k hk
    obtain ⟨er, ei⟩ := at_of D k re im hz
    refine ⟨re, im, hz, ?_⟩
    have := mk_openS _ D h2 k hk
    rw [er, ei] at this
    exact this)
  obtain ⟨re, im, hz, ho⟩ := HZ.out q (by omega)
  have HZQ := Lib.hid hz
  rw [Int.toNat_natCast, Int.toNat_natCast, Int.toNat_natCast, hq] at h7 ⊢
  rw [h7] at ho
  obtain ⟨b, cap', e', _, hb⟩ := hO.form (isMap_pos h1)
  simp only [Value.slice.injEq, true_and] at e'
  obtain ⟨rfl, rfl⟩ := e'
  have HCell : Hid (∀ i, i < L.length → w.cell? ⟨b, i, none⟩ = some (.int .i64 (L.getD i 0))) := Lib.hid (fun i hi => hO.cell i hi)
  have HB := Lib.hid hb
  have HLW := Lib.hid (fun i => isW_getD h6 i)
  have HNN := Lib.hid hlen
  have HEN := Lib.hid (fun k => resFl_end (O := open_ D) hlen.symm hN64 hPN (isW_getD h6 q) k)
  have HFl := Lib.hid (fun k => fl_any (O := open_ D) hlen.symm hN64 hPN (isW_getD h6 q) k)
  have hmm : IntKind.i64.wrap ((m : Int) * (m : Int)) = (L.length : Int) := by rw [← Int.natCast_mul, ← hlen]; exact IntWalk.i64_in _ (by omega)
  obtain ⟨i0, hi, hz0, hz1, hz2⟩ := info_parts info64
  have HY := Lib.hid (fun w => l01In_b (yn : Int) 0 ((m : Int) - 1) w)
  have hy : (decide (0 ≤ (yn : Int)) && decide ((yn : Int) ≤ (m : Int) - 1)) = true := h4
  have HX := Lib.hid (fun w => l01In_b (xn : Int) 0 ((m : Int) - 1) w)
  have hx : (decide (0 ≤ (xn : Int)) && decide ((xn : Int) ≤ (m : Int) - 1)) = true := h5
  clear hC hO hD h4 h5 h7 hq hX hz e0 hb hlen
  go_enter Try.func16, Try.ntmps16
  go_wp2_with fail
  generalize w.alloc (.cells D 33) = v1 at *
  refine (HI.out _ B0.out).mono ?_
  rintro e w1 ⟨rfl, rfl⟩
  go_wp2_with (first | (refine wpList_load_row_g rfl 33 (.tmp 7) rfl w.heap.size rfl 33 D (0, 0) _ G0.out Try.underlying33 rfl HDI.out ?_) | (go_at_call 56; fail))
  refine (HM.out _).mono ?_
  rintro e w2 ⟨rfl, b2⟩
  have B2 := Lib.hid (B0.out.trans (b2.mono B0.out.size))
  have G2 := Lib.hid ((b2.block w.heap.size HLT.out).trans G0.out)
  have s0 := cell_of_row _ w.heap.size 0 _ _ _ G2.out
  rw [HS0.out] at s0
  clear b2
  rw [h2]
  have cq := cell_of_row _ w.heap.size (1 + q) _ _ _ G2.out
  rw [HZQ.out] at cq
  go_wp2_with fail
  refine (HY.out _).mono ?_
  rw [hy]
  rintro e w3 ⟨rfl, rfl⟩
  go_wp2_with fail
  refine (HX.out _).mono ?_
  rw [hx]
  rintro e w3 ⟨rfl, rfl⟩
  have hM1 := fun v => madeInts L.length hN64 v
  have hM2 := fun v => madeBools L.length hN64 v
  have HUS : Hid (w.heap.size < w2.heap.size) := Lib.hid (by have := B2.out.size; have := (Array.getElem?_eq_some_iff.1 G2.out).1; omega)
  clear hi hz0 hz1 hz2
  go_upto_region 8 with fail
  go_cut [13, 14, 15] (fun x1 x2 x3 wx => ∃ g mb qb, x1 = .slice (some ⟨g, 0, none⟩) L.length L.length ∧ x2 = .slice (some ⟨mb, 0, none⟩) L.length L.length ∧ x3 = .slice (some ⟨qb, 0, none⟩) 1 1 ∧
    Hid (wx.heap[g]? = some (.cells (Array.replicate L.length (.int .i64 0)) 2 (0, 0))) ∧ Hid (wx.heap[mb]? = some (.cells (Array.replicate L.length (.bool false)) 4 (0, 0))) ∧ Hid (wx.heap[qb]? = some (.cells #[.int .i64 (q : Int)] 2 (0, 0))) ∧
    Hid (g ≠ mb ∧ g ≠ qb ∧ mb ≠ qb ∧ w2.heap.size ≤ g ∧ w2.heap.size ≤ mb ∧ w2.heap.size ≤ qb) ∧ Hid (Below w2.heap.size w2 wx))
  case first =>
    as_aux_lemma =>
    go_region
    all_goals go_wp2_with fail
    all_goals go_meet
    all_goals refine ⟨_, _, _, rfl, rfl, rfl, Lib.hid ?_, Lib.hid ?_, Lib.hid ?_, Lib.hid ⟨by omega, by omega, by omega, by omega, by omega, by omega⟩, Lib.hid (belowABC _ _ _ _)⟩
    all_goals first | exact heapA _ _ _ _ | exact heapB _ _ _ _ | exact heapC _ _ _ _
  case rest =>
  obtain ⟨g, mb, qb, rfl, rfl, rfl, RG, RH, RQ, AP, KB⟩ := hcut
  have KW : Hid (Below w.heap.size w wc) := Lib.hid (B2.out.trans (KB.out.mono (Nat.le_of_lt HUS.out)))
  have GD : Hid (wc.heap[w.heap.size]? = some (.cells D 33 (0, 0))) := Lib.hid ((KB.out.block w.heap.size HUS.out).trans G2.out)
  have AW : Hid (w.heap.size < g ∧ w.heap.size < mb ∧ w.heap.size < qb) := Lib.hid (by have := AP.out; have := HUS.out; omega)
  have O0 : Hid (Own w.heap.size (.slice (some ⟨g, 0, none⟩) L.length L.length) (List.replicate L.length 0) wc) := Lib.hid (own_rep RG.out (by have := AW.out; omega) hN64)
  have c1 : wc.cell? ⟨mb, q, none⟩ = some (.bool false) := by rw [cell_of_row _ _ _ _ _ _ RH.out, Array.getElem?_replicate, if_pos hPN]
  have z1 : wc.frozen? ⟨mb, q, none⟩ = false := frozen_of_row _ _ _ _ _ RH.out
  clear cq s0 hM1 hM2 hn1 hne hmm
  go_upto_region 10 with fail
  have RH1 : Hid ((wc.setCell ⟨mb, q, none⟩ (.bool true)).heap[mb]? = some (.cells ((Array.replicate L.length (Value.bool false)).setIfInBounds q (.bool true)) 4 (0, 0))) := Lib.hid (heap_setCell_same _ _ _ _ _ _ RH.out)
  have O1 : Hid (Own w.heap.size (.slice (some ⟨g, 0, none⟩) L.length L.length) (List.replicate L.length 0) (wc.setCell ⟨mb, q, none⟩ (.bool true))) := Lib.hid (own_setOther2 O0.out (fun e => AP.out.1 e.symm))
  have RQ1 : Hid ((wc.setCell ⟨mb, q, none⟩ (.bool true)).heap[qb]? = some (.cells #[.int .i64 (q : Int)] 2 (0, 0))) := Lib.hid ((Below.heap_setCell _ _ _ _ (fun e => AP.out.2.2.1 e.symm)).trans RQ.out)
  have K1 : Hid (Below w.heap.size w (wc.setCell ⟨mb, q, none⟩ (.bool true))) := Lib.hid (KW.out.setCell (p := ⟨mb, q, none⟩) (by have := AW.out; show w.heap.size ≤ mb; omega) _)
  have GD1 : Hid ((wc.setCell ⟨mb, q, none⟩ (.bool true)).heap[w.heap.size]? = some (.cells D 33 (0, 0))) := Lib.hid ((Below.heap_setCell _ _ _ _ (fun e => by have := AW.out; have h8 : w.heap.size = mb := e; omega)).trans GD.out)
  generalize wc.setCell ⟨mb, q, none⟩ (.bool true) = W1 at *
  clear c1 z1 KW GD O0 RH RQ RG
  have c2 : W1.cell? ⟨b, q, none⟩ = some (.int .i64 (L.getD q 0)) := (K1.out.cell (p := ⟨b, q, none⟩) HB.out).trans (HCell.out q hPN)
  have o1 : Own w.heap.size (.slice (some ⟨g, 0, none⟩) (List.replicate L.length (0 : Int)).length L.length) (List.replicate L.length 0) W1 := by rw [List.length_replicate]; exact O1.out
  have c3 : W1.cell? ⟨g, q, none⟩ = some (.int .i64 ((List.replicate L.length (0 : Int)).getD q 0)) := o1.cell q (by rw [List.length_replicate]; exact hPN)
  have z3 : W1.frozen? ⟨g, q, none⟩ = false := o1.free q
  obtain ⟨xq, hxq⟩ : ∃ xq, L.getD q 0 = xq := ⟨_, rfl⟩
  rw [hxq] at c2
  have HXQ := Lib.hid hxq
  have HST := Lib.hid (o1.stored q xq)
  clear hxq
  clear o1
  go_upto_region 11 with fail
  have O2 : Hid (Own w.heap.size (.slice (some ⟨g, 0, none⟩) L.length L.length) ((List.replicate L.length 0).set q xq) (W1.setCell ⟨g, q, none⟩ (.int .i64 xq))) := Lib.hid (by have := HST.out; rw [List.length_replicate] at this; exact this)
  have RH2 : Hid ((W1.setCell ⟨g, q, none⟩ (.int .i64 xq)).heap[mb]? = some (.cells ((Array.replicate L.length (Value.bool false)).setIfInBounds q (.bool true)) 4 (0, 0))) := Lib.hid ((Below.heap_setCell _ _ _ _ (fun e => AP.out.1 e.symm)).trans RH1.out)
  have RQ2 : Hid ((W1.setCell ⟨g, q, none⟩ (.int .i64 xq)).heap[qb]? = some (.cells #[.int .i64 (q : Int)] 2 (0, 0))) := Lib.hid ((Below.heap_setCell _ _ _ _ (fun e => AP.out.2.1 e.symm)).trans RQ1.out)
  have K2 : Hid (Below w.heap.size w (W1.setCell ⟨g, q, none⟩ (.int .i64 xq))) := Lib.hid (K1.out.setCell (p := ⟨g, q, none⟩) (by have := AW.out; show w.heap.size ≤ g; omega) _)
  have GD2 : Hid ((W1.setCell ⟨g, q, none⟩ (.int .i64 xq)).heap[w.heap.size]? = some (.cells D 33 (0, 0))) := Lib.hid ((Below.heap_setCell _ _ _ _ (fun e => by have := AW.out; have h8 : w.heap.size = g := e; omega)).trans GD1.out)
  generalize W1.setCell ⟨g, q, none⟩ (.int .i64 xq) = W2 at *
  clear c2 c3 z3 K1 GD1 O1 RH1 RQ1 HST
  go_upto_region 12 with fail
  have S3 : Hid (∃ rb cb, rb = W2.heap.size ∧ cb = W2.heap.size + 1 ∧ SpM w.heap.size g mb rb cb w.heap.size L.length D (flo0 L.length q L (open_ D)) (.slice (some ⟨qb, 0, none⟩) 1 1) ((W2.alloc (.cells #[.int .i64 0, .int .i64 1, .int .i64 0, .int .i64 (-1)] 2)).alloc (.cells #[.int .i64 1, .int .i64 0, .int .i64 (-1), .int .i64 0] 2))) :=
    Lib.hid ⟨_, _, rfl, rfl, spM_start hPN hN64 (by rw [HXQ.out]; exact O2.out) RH2.out RQ2.out AP.out.1 AP.out.2.1 AP.out.2.2.1 (by have := AW.out; omega) (by have := AW.out; omega) (by have := AW.out; omega) GD2.out (by have := AW.out; omega)⟩
  have K3 : Hid (Below w.heap.size w ((W2.alloc (.cells #[.int .i64 0, .int .i64 1, .int .i64 0, .int .i64 (-1)] 2)).alloc (.cells #[.int .i64 1, .int .i64 0, .int .i64 (-1), .int .i64 0] 2))) := Lib.hid ((K2.out.alloc K2.out.size _).alloc (by have := K2.out.size; rw [World.size_alloc]; omega) _)
  generalize ((W2.alloc (.cells #[.int .i64 0, .int .i64 1, .int .i64 0, .int .i64 (-1)] 2)).alloc (.cells #[.int .i64 1, .int .i64 0, .int .i64 (-1), .int .i64 0] 2)) = W3 at *
  obtain ⟨rb, cb, hrb, hcb, S3⟩ := S3.out
  rw [← hcb, ← hrb]
  clear hcb hrb
  have S3h := Lib.hid S3
  clear S3
  have HAX := Lib.hid (And.intro hm1 (And.intro hm8 (And.intro hN64 hPN)))
  have HFm := Lib.hid (fun k hk => (HFl.out k).met k hk)
  have HFh := Lib.hid (fun k (a : Nat) (hk : k < (flo m L (flo0 L.length q L (open_ D)) k).Q.length) (ha : (flo m L (flo0 L.length q L (open_ D)) k).Q.getD k 0 = (a : Int)) (haN : a < L.length) (hua : (flo m L (flo0 L.length q L (open_ D)) k).U.getD a false = false) i hi => Fl.hops (L := L) (HFl.out k) HNN.out.symm (hops_true m L.length L) a haN hua trivial i hi)
  have HFS := Lib.hid (fun k => flo_succ m L (flo0 L.length q L (open_ D)) k)
  have HQL : Hid (∀ k, (flo m L (flo0 L.length q L (open_ D)) k).Q.length ≤ 64) := Lib.hid (fun k => by have := (HFl.out k).cnt; omega)
  have HPL := Lib.hid (fun a i (h : insTo m a i = true) => And.intro (plcTo_lt HNN.out.symm h) (And.intro (plcTo_int h) (plcTo_ne (by omega) h)))
  have S4 : Hid (SpM w.heap.size g mb rb cb w.heap.size L.length D (flo m L (flo0 L.length q L (open_ D)) 0) (.slice (some ⟨qb, 0, none⟩) 1 1) W3) := S3h
  generalize flo0 L.length q L (open_ D) = s0 at *
  have hm0 : ¬ m = 0 := by omega
  have hmw : IntKind.i64.wrap ((m : Int) - 1) = (m : Int) - 1 := IntWalk.i64_in _ (by omega)
  clear S3h HFl S3
  go_wp2_with fail
  go_loopw [15, 18] (fun qv s18 wr => ∃ k : Nat, k ≤ (flo m L s0 k).Q.length ∧ s18 = .int .i64 k ∧ Hid (SpM w.heap.size g mb rb cb w.heap.size L.length D (flo m L s0 k) qv wr) ∧ Hid (Below w.heap.size w wr)) (fun _ s18 _ => 64 - (intOf s18).toNat)
  case atStart => exact ⟨0, Nat.zero_le _, rfl, S4, K3⟩
  case round =>
    clear S4 K3
    obtain ⟨k, hk, rfl, S, K⟩ := hrel
    obtain ⟨q1, ⟨ms, q2, q3, q4⟩, q5, q6, q7, q8, q9⟩ := S.out
    obtain ⟨qg, off, qc, cur, rfl, hqb, hqh, hql, hqm, hqs, hqi⟩ := q7
    by_cases hlt : k < (flo m L s0 k).Q.length
    · obtain ⟨a, ha1, ha2, ha3, _⟩ := HFm.out k hlt
      have HF4 := Lib.hid (HFh.out k a hlt ha1 ha2 ha3)
      have HSU : Hid (flo m L s0 (k + 1) = hops m L a (flo m L s0 k) 4) := Lib.hid (by rw [HFS.out, if_pos hlt, ha1]; rfl)
      have ck : wr.cell? ⟨qg, off + k, none⟩ = some (.int .i64 (a : Int)) := by rw [cell_of_row _ _ _ _ _ _ hqh, ← ha1]; exact hqi k hlt
      have hk64 : k < 64 := Nat.lt_of_lt_of_le hlt (HQL.out k)
      have hdk : decide ((k : Int) < (((flo m L s0 k).Q.length : Nat) : Int)) = true := by simp; omega
      have hkn : (k : Int) < (((flo m L s0 k).Q.length : Nat) : Int) := by omega
      have S5 : Hid (SpM w.heap.size g mb rb cb w.heap.size L.length D (hops m L a (flo m L s0 k) 0) (.slice (some ⟨qg, off, none⟩) (flo m L s0 k).Q.length qc) wr) := S
      have HKL : Hid (k + 1 ≤ (flo m L s0 (k + 1)).Q.length) := Lib.hid (by rw [HSU.out]; exact Nat.le_trans hlt (hops_len m L a _ 4))
      have ha0 : (0 : Int) ≤ (a : Int) := by omega
      have haN := Lib.hid ha2
      generalize flo m L s0 k = t0 at *
      generalize t0.Q.length = nq at *
      clear q1 q2 q3 q4 q5 q6 q8 q9 hqb hqh hql hqm hqs hqi ha1 ha2 ha3 hlt hk S
      go_wp2_with fail
      go_loopw [15, 20] (fun qv s20 wy => ∃ i : Nat, i ≤ 4 ∧ s20 = .int .i64 i ∧ Hid (SpM w.heap.size g mb rb cb w.heap.size L.length D (hops m L a t0 i) qv wy) ∧ Hid (Below w.heap.size w wy)) (fun _ s20 _ => 4 - (intOf s20).toNat)
      case atStart => exact ⟨0, by omega, rfl, S5, K⟩
      case round =>
        clear S5 K
        obtain ⟨i, hi4, rfl, S, K⟩ := hrel
        by_cases hi : i < 4
        · have HTi := Lib.hid (HF4.out i (by omega))
          have HUI : Hid (hops m L a t0 (i + 1) = hop m L a (hops m L a t0 i) i) := Lib.hid rfl
          have HSK : Hid ((insTo m a i && (hops m L a t0 i).U.getD (plcTo m a i) false) = false → hops m L a t0 (i + 1) = hops m L a t0 i) := Lib.hid (fun h => hop_skip h)
          have HYS : Hid ((insTo m a i && (hops m L a t0 i).U.getD (plcTo m a i) false) = true → hops m L a t0 (i + 1) = ⟨(hops m L a t0 i).H.set (plcTo m a i) ((hops m L a t0 i).H.getD a 0 + lessH (L.getD a 0) (L.getD (plcTo m a i) 0)), (hops m L a t0 i).U.set (plcTo m a i) false, (hops m L a t0 i).Q ++ [((plcTo m a i : Nat) : Int)]⟩) := Lib.hid (fun h => hop_yes h)
          generalize hops m L a t0 i = t at *
          obtain ⟨q1, ⟨ms, q2, q3, q4⟩, q5, q6, q7, q8, q9⟩ := S.out
          obtain ⟨qs, qn, qc2, rfl⟩ := q7.shape
          have hrbi : wr.cell? ⟨rb, i, none⟩ = some (.int .i64 (wayY i)) := by rw [cell_of_row _ _ _ _ _ _ q5]; exact (way_cells i hi).1
          have hcbi : wr.cell? ⟨cb, i, none⟩ = some (.int .i64 (wayX i)) := by rw [cell_of_row _ _ _ _ _ _ q6]; exact (way_cells i hi).2
          have hws := way_small i
          obtain ⟨qa, hqa⟩ : ∃ qa, a / m = qa := ⟨_, rfl⟩
          obtain ⟨ra, hra⟩ : ∃ ra, a % m = ra := ⟨_, rfl⟩
          have hdiv : ((a : Int)).tdiv (m : Int) = (qa : Int) := by rw [Int.tdiv_eq_ediv_of_nonneg (by omega), ← Int.natCast_ediv, hqa]
          have hmod : ((a : Int)).tmod (m : Int) = (ra : Int) := by rw [Int.tmod_eq_emod_of_nonneg (by omega), ← Int.natCast_emod, hra]
          have hq1 : qa < m := by rw [← hqa]; exact Nat.div_lt_of_lt_mul (by rw [← HNN.out]; exact haN.out)
          have hr1 : ra < m := by rw [← hra]; exact Nat.mod_lt _ (by omega)
          have hqw : IntKind.i64.wrap (qa : Int) = qa := IntWalk.i64_in _ (by omega)
          have hrw : IntKind.i64.wrap (ra : Int) = ra := IntWalk.i64_in _ (by omega)
          have hins : insTo m a i = (inG m ((qa : Int) + wayY i) && inG m ((ra : Int) + wayX i)) := by unfold insTo rowTo colTo; rw [hqa, hra]
          have hPl : insTo m a i = true → plcTo m a i < L.length ∧ ((plcTo m a i : Nat) : Int) = (m : Int) * ((qa : Int) + wayY i) + ((ra : Int) + wayX i) ∧ a ≠ plcTo m a i := fun e => by
            have e1 := HPL.out a i e
            unfold rowTo colTo at e1
            rw [hqa, hra] at e1
            exact e1
          have HPl := Lib.hid hPl
          have HIns := Lib.hid hins
          clear hPl hins hqa hra
          generalize wayY i = wy at *
          generalize wayX i = wx at *
          obtain ⟨V, hV⟩ : ∃ V : Int, V = (qa : Int) + wy := ⟨_, rfl⟩
          obtain ⟨U, hU⟩ : ∃ U : Int, U = (ra : Int) + wx := ⟨_, rfl⟩
          rw [← hV, ← hU] at HPl HIns
          have hw3 : IntKind.i64.wrap ((qa : Int) + wy) = V := by rw [← hV]; exact IntWalk.i64_in _ (by omega)
          have hw4 : IntKind.i64.wrap ((ra : Int) + wx) = U := by rw [← hU]; exact IntWalk.i64_in _ (by omega)
          have hVr : -1 ≤ V ∧ V ≤ 8 := by omega
          have hUr : -1 ≤ U ∧ U ≤ 8 := by omega
          have hi0 : (0 : Int) ≤ (i : Int) := by omega
          have hi4' : (i : Int) < 4 := by omega
          have hdi : decide ((i : Int) < 4) = true := by simp; omega
          clear hV hU hws q1 q2 q3 q4 q5 q6 q7 q8 q9
          go_wp2_with fail
          go_region
          all_goals go_wp2_with fail
          have S6 := Lib.hid (S.out.below (below_drewN (Below.refl wr.heap.size wr) 1) (Nat.le_refl _))
          have K6 := Lib.hid (below_drewN K.out 1)
          have hd1 : wr.drewN 1 = wr.drew := rfl
          rw [hd1] at S6 K6
          clear hd1 hrbi hcbi S K
          generalize wr.drew = W6 at *
          have HXU := Lib.hid (l01In_b U 0 ((m : Int) - 1) W6)
          refine (l01In_b V 0 ((m : Int) - 1) W6).mono ?_
          have hgV : (decide (0 ≤ V) && decide (V ≤ (m : Int) - 1)) = inG m V := rfl
          have hgU : (decide (0 ≤ U) && decide (U ≤ (m : Int) - 1)) = inG m U := rfl
          rw [hgV]
          rw [hgU] at HXU
          clear hgV hgU
          cases hV : inG m V
          · as_aux_lemma =>
            rintro e w1 ⟨rfl, rfl⟩
            have HV := Lib.hid hV
            clear hV
            go_wp2_with fail
            exact ⟨⟨i + 1, by omega, by go_num, by rw [HSK.out (by rw [HIns.out, HV.out]; rfl)]; exact S6, K6⟩, by simp [intOf]; omega⟩
          · as_aux_lemma =>
            rintro e w1 ⟨rfl, rfl⟩
            have HV := Lib.hid hV
            clear hV
            go_wp2_with fail
            refine HXU.out.mono ?_
            cases hU : inG m U
            · as_aux_lemma =>
              rintro e w1 ⟨rfl, rfl⟩
              have HU := Lib.hid hU
              clear hU
              go_wp2_with fail
              exact ⟨⟨i + 1, by omega, by go_num, by rw [HSK.out (by rw [HIns.out, HU.out, Bool.and_false]; rfl)]; exact S6, K6⟩, by simp [intOf]; omega⟩
            · as_aux_lemma =>
              rintro e w1 ⟨rfl, rfl⟩
              have HIT := Lib.hid (HIns.out.trans (by rw [HV.out, hU]; rfl : (inG m V && inG m U) = true))
              obtain ⟨hPN', hPi, hPa⟩ := HPl.out HIT.out
              obtain ⟨P, hP⟩ : ∃ P, plcTo m a i = P := ⟨_, rfl⟩
              rw [hP] at hPN' hPi hPa HSK HYS
              obtain ⟨Y, hY⟩ : ∃ Y : Int, Y = (m : Int) * V := ⟨_, rfl⟩
              rw [← hY] at hPi
              have hx1 : IntKind.i64.wrap ((m : Int) * V) = Y := by rw [← hY]; exact IntWalk.i64_in _ (by omega)
              have hx2 : IntKind.i64.wrap (Y + U) = (P : Int) := by rw [← hPi]; exact IntWalk.i64_in _ (by omega)
              have hP0 : (0 : Int) ≤ (P : Int) := by omega
              have hP64 : (P : Int) < 64 := by omega
              have hPL : (P : Int) < (L.length : Int) := by omega
              have HPP := Lib.hid (And.intro hPN' hPa)
              clear hY hP hPi hU HPl HIns HV HXU
              obtain ⟨q1, ⟨ms, q2, q3, q4⟩, q5, q6, q7, q8, q9, q10, q11, q12, q13, q14⟩ := S6.out
              obtain ⟨bm, hb1, hb2⟩ := q4 P HPP.out.1
              have cm : W6.cell? ⟨mb, P, none⟩ = some (.bool bm) := by rw [cell_of_row _ _ _ _ _ _ q2]; exact hb1
              have zm : W6.frozen? ⟨mb, P, none⟩ = false := frozen_of_row _ _ _ _ _ q2
              obtain ⟨re2, im2, hz2, ho2⟩ := HZ.out P (by omega)
              have cD : W6.cell? ⟨w.heap.size, 1 + P, none⟩ = some (.complex .f32 re2 im2) := by rw [cell_of_row _ _ _ _ _ _ q13]; exact hz2
              have HB2 := Lib.hid hb2
              clear q1 q2 q3 q4 q5 q6 q7 q8 q9 q10 q11 q12 q13 q14 hb1 hb2 hz2
              cases bm
              · cases hop : open_ D P
                · as_aux_lemma =>
                  rw [hop] at ho2
                  have HOP := Lib.hid hop
                  clear hop
                  go_wp2_with fail
                  exact ⟨⟨i + 1, by omega, by go_num, by rw [HSK.out (by rw [HB2.out, HOP.out, Bool.and_false, Bool.and_false])]; exact S6, K6⟩, by simp [intOf]; omega⟩
                · as_aux_lemma =>
                  rw [hop] at ho2
                  have HUP : Hid (t.U.getD P false = true) := Lib.hid (by rw [HB2.out, hop]; rfl)
                  have HNX := Lib.hid (HYS.out (by rw [HIT.out, HUP.out]; rfl))
                  have hHl := HTi.out.1.hlen
                  have hbd := HTi.out.1.bd a
                  have hcn := HTi.out.1.cnt
                  have hPl1 := HPP.out.1
                  have hpa1 := HPP.out.2
                  have hal := haN.out
                  have hql : t.Q.length ≤ 1048576 := by omega
                  have HQN := Lib.hid hql
                  have hau : -4096 ≤ t.H.getD a 0 ∧ t.H.getD a 0 ≤ 4096 := by omega
                  obtain ⟨q1, _, q5, q6, q7, q8, q9, q10, q11, q12, q13, q14, q15, q16⟩ := S6.out
                  clear hop hql hbd hcn
                  go_upto_region 24 with fail
                  have O7 : Hid (Own w.heap.size (.slice (some ⟨g, 0, none⟩) L.length L.length) t.H (W6.setCell ⟨mb, P, none⟩ (.bool true))) := Lib.hid (own_setOther2 q1 (fun e => q8.1 e.symm))
                  have K7 : Hid (Below w.heap.size w (W6.setCell ⟨mb, P, none⟩ (.bool true))) := Lib.hid (K6.out.setCell (p := ⟨mb, P, none⟩) q8.2.2.2.2.2.2.1 _)
                  have R7 : Hid (∀ ms, W6.heap[mb]? = some (.cells ms 4 (0, 0)) → (W6.setCell ⟨mb, P, none⟩ (.bool true)).heap[mb]? = some (.cells (ms.setIfInBounds P (.bool true)) 4 (0, 0))) := Lib.hid (fun ms h => heap_setCell_same _ _ _ _ _ _ h)
                  have B7 : Hid (∀ j, j ≠ mb → (W6.setCell ⟨mb, P, none⟩ (.bool true)).heap[j]? = W6.heap[j]?) := Lib.hid (fun j h => Below.heap_setCell _ _ _ _ h)
                  have Q7 : Hid (Qu w.heap.size (.slice qs qn qc2) t.Q (W6.setCell ⟨mb, P, none⟩ (.bool true))) := Lib.hid (q7.setCell q10)
                  have HSZ : Hid ((W6.setCell ⟨mb, P, none⟩ (.bool true)).heap.size = W6.heap.size) := Lib.hid (World.size_setCell _ _ _)
                  have HQ8 := Lib.hid q8
                  have HQ9 := Lib.hid q9
                  generalize W6.setCell ⟨mb, P, none⟩ (.bool true) = W7 at *
                  clear q1 q5 q6 q7 q8 q9 q10 q11 q12 q13 q14 q15 q16 cm zm cD ho2
                  have o7 : Own w.heap.size (.slice (some ⟨g, 0, none⟩) t.H.length L.length) t.H W7 := by rw [hHl]; exact O7.out
                  have ga := o7.cell a (by rw [hHl]; exact hal)
                  have gP := o7.cell P (by rw [hHl]; exact hPl1)
                  have gz := o7.free P
                  have ba : W7.cell? ⟨b, a, none⟩ = some (.int .i64 (L.getD a 0)) := (K7.out.cell (p := ⟨b, a, none⟩) HB.out).trans (HCell.out a hal)
                  have bP : W7.cell? ⟨b, P, none⟩ = some (.int .i64 (L.getD P 0)) := (K7.out.cell (p := ⟨b, P, none⟩) HB.out).trans (HCell.out P hPl1)
                  have hx1' := HLW.out a
                  have hy1' := HLW.out P
                  have hl1 := lessH_range (L.getD a 0) (L.getD P 0)
                  have HD2 := Lib.hid (fun w => l07Less_any (L.getD a 0) (L.getD P 0) (by omega) (by omega) w)
                  have HST := Lib.hid (o7.stored P (t.H.getD a 0 + lessH (L.getD a 0) (L.getD P 0)))
                  have HHL := Lib.hid hHl
                  clear o7
                  generalize L.getD a 0 = x0 at *
                  generalize L.getD P 0 = y0 at *
                  generalize t.H.getD P 0 = u2 at *
                  generalize t.H.getD a 0 = u0 at *
                  generalize lessH x0 y0 = d0 at *
                  have hud : IntKind.i64.wrap (u0 + d0) = u0 + d0 := IntWalk.i64_in _ (by omega)
                  have hbg : b ≠ g := by have := HB.out; have := HQ8.out; omega
                  have HE : Hid ((W7.setCell ⟨g, P, none⟩ (.int .i64 (u0 + d0))).drew.cell? ⟨g, a, none⟩ = some (.int .i64 u0) ∧ (W7.setCell ⟨g, P, none⟩ (.int .i64 (u0 + d0))).drew.cell? ⟨b, a, none⟩ = some (.int .i64 x0) ∧ (W7.setCell ⟨g, P, none⟩ (.int .i64 (u0 + d0))).drew.cell? ⟨b, P, none⟩ = some (.int .i64 y0)) := Lib.hid (by
                    refine ⟨?_, ?_, ?_⟩
                    · rw [World.cell?_drew, World.cell?_setCell_other _ _ _ _ (by intro h; injection h; omega)]; exact ga
                    · rw [World.cell?_drew, World.cell?_setCell_other _ _ _ _ (by intro h; injection h; omega)]; exact ba
                    · rw [World.cell?_drew, World.cell?_setCell_other _ _ _ _ (by intro h; injection h; omega)]; exact bP)
                  have he := HE.out
                  rw [World.cell?_drew, World.cell?_drew, World.cell?_drew] at he
                  obtain ⟨e1, e2, e3⟩ := he
                  have ha00 : (a : Int) < (L.length : Int) := by omega
                  clear hHl hau hx1' hy1' hbg HE
                  go_region_held3 (fun w' => w'.cell? ⟨g, a, none⟩ = some (.int .i64 u0) ∧ w'.cell? ⟨b, a, none⟩ = some (.int .i64 x0) ∧ w'.cell? ⟨b, P, none⟩ = some (.int .i64 y0))
                    (go_keep)
                    (first | (go_at_call 34; refine (HD2.out _).mono ?_; rintro e w' ⟨rfl, rfl⟩))
                  have O8 : Hid (Own w.heap.size (.slice (some ⟨g, 0, none⟩) L.length L.length) (t.H.set P (u0 + d0)) (W7.setCell ⟨g, P, none⟩ (.int .i64 (u0 + d0))).drew) := Lib.hid (by have h9 := HST.out; rw [HHL.out] at h9; exact h9)
                  have K8 : Hid (Below w.heap.size w (W7.setCell ⟨g, P, none⟩ (.int .i64 (u0 + d0))).drew) := Lib.hid ((K7.out.setCell (p := ⟨g, P, none⟩) HQ8.out.2.2.2.2.2.1 _).drew)
                  have B8 : Hid (∀ j, j ≠ g → (W7.setCell ⟨g, P, none⟩ (.int .i64 (u0 + d0))).drew.heap[j]? = W7.heap[j]?) := Lib.hid (fun j h => Below.heap_setCell _ _ _ _ h)
                  have Q8 : Hid (Qu w.heap.size (.slice qs qn qc2) t.Q (W7.setCell ⟨g, P, none⟩ (.int .i64 (u0 + d0))).drew) := Lib.hid ((Q7.out.setCell HQ9.out).drew)
                  have HS8 : Hid ((W7.setCell ⟨g, P, none⟩ (.int .i64 (u0 + d0))).drew.heap.size = W6.heap.size) := Lib.hid ((World.size_setCell _ _ _).trans HSZ.out)
                  generalize (W7.setCell ⟨g, P, none⟩ (.int .i64 (u0 + d0))).drew = W8 at *
                  clear e1 e2 e3 ga gP gz ba bP
                  have hB8 : w.heap.size ≤ (W8.alloc (.cells #[.int .i64 (P : Int)] 2)).heap.size := by rw [World.size_alloc]; have := K8.out.size; omega
                  go_wp2_with (at_builtin; refine wpList_pushQ _ rfl (.tmp 185) (.tmp 187) rfl w.heap.size _ _ (P : Int) ⟨W8.heap.size, 0, none⟩ rfl rfl (World.cell?_alloc_at _ _ _ _ rfl) (Q8.out.alloc _) HQN.out hB8 ?_)
                  intro v' W9 q9' gr9 ap9
                  obtain ⟨va, vn, vc, rfl⟩ := q9'.shape
                  have S9 : Hid (SpM w.heap.size g mb rb cb w.heap.size L.length D (hops m L a t0 (i + 1)) (.slice va vn vc) W9) := Lib.hid (by
                    have hgo : ∀ j, j < W6.heap.size → (Value.slice qs qn qc2).ownBlock ≠ some j → W9.heap[j]? = W8.heap[j]? := fun j hj hne => (gr9.block j (by rw [World.size_alloc, HS8.out]; omega) (fun e => hne e.symm)).trans (Below.heap_alloc _ _ _ (by rw [HS8.out]; exact hj))
                    rw [HNX.out]
                    refine spM_hop S6.out HPP.out.1 HUP.out ?_ ?_ ?_ q9' ?_
                    · exact World.ownsRow.kept (O8.out.alloc _) gr9 (.inr (fun e => HQ9.out (by simp only [Value.ownBlock] at e ⊢; exact e.symm)))
                    · intro ms hms
                      have l1 := (Array.getElem?_eq_some_iff.1 hms).1
                      rw [hgo mb l1 S6.out.2.2.2.2.2.2.2.1, B8.out mb (fun e => HQ8.out.1 e.symm)]
                      exact R7.out ms hms
                    · intro j hj h1 h2 h3
                      rw [hgo j hj h3, B8.out j h1, B7.out j h2]
                    · intro j hj hne
                      exact ap9 j (by first | omega | (have := HS8.out; omega) | (rw [World.size_alloc, HS8.out]; omega)) hne)
                  have K9 : Hid (Below w.heap.size w W9) := Lib.hid ((K8.out.alloc K8.out.size _).grown gr9 hB8 (fun k hk => (Q8.out.lt k hk).1))
                  clear q9' gr9 ap9
                  go_wp2_with fail
                  exact ⟨⟨i + 1, by omega, by go_num, S9, K9⟩, by simp [intOf]; omega⟩
              · as_aux_lemma =>
                go_wp2_with fail
                exact ⟨⟨i + 1, by omega, by go_num, by rw [HSK.out (by rw [HB2.out]; simp)]; exact S6, K6⟩, by simp [intOf]; omega⟩
        · obtain rfl : i = 4 := by omega
          rw [← HSU.out] at S
          go_wp2_with fail
          exact ⟨⟨k + 1, HKL.out, by go_num, S, K⟩, by simp [intOf]; omega⟩
    · have hkq : k = (flo m L s0 k).Q.length := by omega
      have HE := Lib.hid (HEN.out k hkq)
      have O9 := Lib.hid q1
      rw [← hkq]
      clear q1 q2 q3 q4 q5 q6 q8 q9 hqb hqh hql hqm hqs hqi hlt hk hkq S
      go_wp2_with fail
      go_ret2
      exact ⟨_, rfl, by rw [← HE.out]; exact O9.out, K.out⟩

theorem specFlood (n s y x : Int) (L : List Int) (D : Array Value) : Floods 16 n s y x L D (resFlood n s y x L D) (codeFl n s y x L D) := by
  cases h1 : isMap n L
  · obtain ⟨e1, e2⟩ := codeFl_1 (s := s) (y := y) (x := x) (D := D) (show (isMap n L && isMsk s D) = false by rw [h1]; rfl)
    rw [e1, e2]; exact specFl_a n s y x L D h1
  cases h2 : isMsk s D
  · obtain ⟨e1, e2⟩ := codeFl_1 (n := n) (y := y) (x := x) (L := L) (show (isMap n L && isMsk s D) = false by rw [h2, Bool.and_false])
    rw [e1, e2]; exact specFl_b n s y x L D h1 h2
  have h12 : (isMap n L && isMsk s D) = true := by rw [h1, h2]; rfl
  cases h3 : decide (s = n)
  · obtain ⟨e1, e2⟩ := codeFl_2 (y := y) (x := x) h12 (by rw [h3]; rfl)
    rw [e1, e2]; exact specFl_c n s y x L D h1 h2 h3
  have h3' : s = n := by simpa using h3
  cases h4 : inS n y
  · obtain ⟨e1, e2⟩ := codeFl_2 (y := y) (x := x) h12 (by rw [h4, Bool.false_and, Bool.and_false])
    rw [e1, e2]; exact specFl_d n s y x L D h1 h2 h3' h4
  cases h5 : inS n x
  · obtain ⟨e1, e2⟩ := codeFl_2 (y := y) (x := x) h12 (by rw [h5, Bool.and_false, Bool.and_false])
    rw [e1, e2]; exact specFl_e n s y x L D h1 h2 h3' h4 h5
  have h345 : (decide (s = n) && (inS n y && inS n x)) = true := by rw [h3, h4, h5]; rfl
  cases h6 : L.all isW
  · obtain ⟨e1, e2⟩ := codeFl_5 h12 h345 (by rw [h6]; rfl)
    rw [e1, e2]; exact specFl_f n s y x L D h1 h2 h3' h4 h5 h6
  cases h7 : open_ D (n.toNat * y.toNat + x.toNat)
  · obtain ⟨e1, e2⟩ := codeFl_5 h12 h345 (by rw [h7, Bool.and_false])
    rw [e1, e2]; exact specFl_g n s y x L D h1 h2 h3' h4 h5 h6 h7
  · obtain ⟨e1, e2⟩ := codeFl_0 h12 h345 (by rw [h6, h7]; rfl)
    rw [e1, e2]; exact specFl_yes n s y x L D h1 h2 h3' h4 h5 h6 h7

end Go.Proofs.Ytjmfffgddmnkmac
