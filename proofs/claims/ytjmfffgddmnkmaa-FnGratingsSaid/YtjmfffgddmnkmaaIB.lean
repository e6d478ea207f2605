/- The program builds a mask of a side by one of its rules. Condition: a side; a rule that answers. -/
import Derived.Test.YtjmfffgddmnkmaaIB2
import Derived.Deep.QuietTactic
import Derived.BigQuiet
namespace Go.Proofs.Ytjmfffgddmnkmaa
open Go Go.RowKit

set_option maxRecDepth 100000 in
set_option maxHeartbeats 400000 in
/-- one cell: the rule is taken out of its cell, the shape out of its row -/
theorem clos_isInSlit (S : Array Value) (y x : Nat) (b : Bool) (gf gs : Nat) (w : World)
    (hS : (Try.prog.info? 98).map (·.size) = some S.size)
    (cf : w.cell? ⟨gf, 0, none⟩ = some (.func (.func 131) #[] #[])) (cs : w.heap[gs]? = some (.cells S 98 (0, 0)))
    (hR : ∀ v, Calls Try.prog 131 #[.agg S, .int .i64 y, .int .i64 x] v fun e w' => e = .returned (.bool b) ∧ Below v.heap.size v w') :
    Calls Try.prog 120 #[.int .i64 y, .int .i64 x, .pointer (some ⟨gf, 0, none⟩), .pointer (some ⟨gs, 0, none⟩)] w fun e w' =>
      e = .returned (.complex .f32 (mark b).1 (mark b).2) ∧ Below w.heap.size w w' := by
  have HS := Lib.hid hS
  have HR := Lib.hid hR
  have CS := Lib.hid cs
  clear hS hR cs
  go_enter Try.func120, Try.ntmps120
  go_wp2_with (first | (go_at_call 131; fail) | (refine wpList_load_row rfl 98 (.tmp 3) rfl gs rfl 98 S (0, 0) _ CS.out Try.underlying98 rfl HS.out ?_))
  refine (HR.out _).mono ?_
  rintro e w1 ⟨rfl, b1⟩
  go_wp2_with (go_at_call 121; fail)
  refine (cell_any _ _).mono ?_
  rintro e w2 ⟨rfl, rfl⟩
  go_wp2
  go_ret
  exact ⟨rfl, b1⟩

set_option maxRecDepth 100000 in
set_option maxHeartbeats 800000 in
theorem built_isInSlit (s : Nat) (hs : side s = true) (S : Array Value) (hS : (Try.prog.info? 98).map (·.size) = some S.size) (F : Nat → Nat × Nat) (b : Nat → Nat → Bool) (hF : ∀ i, (fin (F i).1 && fin (F i).2) = true)
    (hb : ∀ y x, y < s → x < s → F (s * y + x) = mark (b y x))
    (hR : ∀ (y x : Nat) v, y < s → x < s → Calls Try.prog 131 #[.agg S, .int .i64 y, .int .i64 x] v fun e w' => e = .returned (.bool (b y x)) ∧ Below v.heap.size v w') (w : World) :
    Calls Try.prog 93 #[.int .i64 s, .int .i64 0, .agg S] w fun e w' => e = .returned (.tuple #[.agg (pic s (gf F (s * s))), .int .i64 0]) ∧ Below w.heap.size w w' := by
  have hz37 := (zero_of_info info37').1
  have HS37 := Lib.hid (zero_of_info info37').2
  have HZ37 : Hid ((pic 0 zc).size = 65) := Lib.hid (pic_size 0 zc zc_size)
  have HFW : Hid (FinW s (pic s (gf F (s * s)))) := Lib.hid (gf_fin s F hF (s * s))
  have HB : Hid (∀ (v : World) (gf' gs : Nat), v.cell? ⟨gf', 0, none⟩ = some (.func (.func 131) #[] #[]) → v.heap[gs]? = some (.cells S 98 (0, 0)) → Calls Try.prog 72 #[.int .i64 s, .func (.func 120) #[] #[.pointer (some ⟨gf', 0, none⟩), .pointer (some ⟨gs, 0, none⟩)]] v fun e w' =>
      e = .returned (.tuple #[.agg (pic s (gf F (s * s))), .int .i64 0]) ∧ Below v.heap.size v w') := Lib.hid fun v gf' gs hf hr =>
    build2_mask s hs F hF ⟨gf', 0, none⟩ ⟨gs, 0, none⟩ v fun y x u hy hx hu => by
      rw [hb y x hy hx]
      exact clos_isInSlit S y x (b y x) gf' gs u hS (by rw [hu.cell (World.block_lt_of_cell? v _ hf)]; exact hf) (by rw [hu.block _ (Array.getElem?_eq_some_iff.1 hr).1]; exact hr) (hR y x · hy hx)
  generalize pic s (gf F (s * s)) = G at *
  generalize pic 0 zc = Z at *
  have HFI : Hid ((Try.prog.info? 32).map (·.size) = some G.size) := Lib.hid (by rw [HFW.out.1]; exact HS37.out)
  have HZF : Hid (Z.size = G.size) := Lib.hid (by rw [HFW.out.1]; exact HZ37.out)
  have HF1 := Lib.hid (finW_one HFW.out)
  clear hb hR hF hS
  have HO := openRules_any
  unfold ruleList at HO
  have hX : ∀ w, (Instr.index 117 (.agg #[.func (.func 131) #[] #[], .func (.func 132) #[] #[], .func (.func 133) #[] #[], .func (.func 134) #[] #[], .func (.func 135) #[] #[]]) (.int .i64 0)).run Try.prog w = .ok (.func (.func 131) #[] #[]) w := fun w => by simp [Instr.index, run_underlying Try.underlying117, asIntOf, go_sem]
  go_enter Try.func93, Try.ntmps93
  go_wp2_with (go_at_call 119; fail)
  refine (HO _).mono ?_
  rintro e w1 ⟨rfl, b1⟩
  have S1 : Hid (w1.heap[w.heap.size]? = some (.cells S 98 (0, 0))) := Lib.hid (by rw [b1.block _ (by rw [size_al, size_al]; omega)]; exact h2_0 _ _ _)
  have Z1 : Hid (w1.heap[w.heap.size + 1]? = some (.cells Z 32 (0, 0))) := Lib.hid (by rw [b1.block _ (by rw [size_al, size_al]; omega)]; exact h2_1 _ _ _)
  have B1 : Hid (Below w.heap.size w w1) := Lib.hid ((below_al2 w _ _).trans (b1.mono (by rw [size_al, size_al]; omega)))
  clear b1 HO
  go_wp2_with (go_at_call 72; fail)
  have HP := HB.out (w1.alloc (.cells #[.func (.func 131) #[] #[]] 116)) w1.heap.size w.heap.size (by rw [cell_of_row _ _ _ _ _ _ (h1_0 _ _)]; rfl) (by rw [heap_alloc_old _ _ (Array.getElem?_eq_some_iff.1 S1.out).1]; exact S1.out)
  refine HP.mono ?_
  rintro e w2 ⟨rfl, b2⟩
  have hlt := (Array.getElem?_eq_some_iff.1 Z1.out).1
  have Z2 : Hid (w2.heap[w.heap.size + 1]? = some (.cells Z 32 (0, 0))) := Lib.hid (by rw [b2.block _ (by rw [size_al]; omega), heap_alloc_old _ _ hlt]; exact Z1.out)
  have B2 : Hid (Below w.heap.size w w2) := Lib.hid ((B1.out.alloc B1.out.size _).trans (b2.mono (by rw [size_al]; have := B1.out.size; omega)))
  clear b2 HP Z1 B1 S1 hlt HB
  go_wp2_with (refine wpList_store_row rfl 32 (.tmp 6) (.tmp 15) rfl (w.heap.size + 1) G rfl rfl 32 Z Z2.out HFI.out HZF.out HF1.out ?_)
  refine bodyPost_ret (v := .tuple #[.agg G, .int .i64 0]) (results_row_tmp (fn := Try.f93) (p := 6) (u := 7) (ty := 32) rfl _ _ (w.heap.size + 1) 32 G (0, 0) _ rfl (setRow_heap _ _ _ _ _ _ Z2.out) Try.underlying32 rfl HFI.out) rfl ⟨rfl, ?_⟩
  exact below_setRow B2.out (by omega) _

set_option maxRecDepth 100000 in
set_option maxHeartbeats 400000 in
/-- one cell: the rule is taken out of its cell, the shape out of its row -/
theorem clos_isInDisc (S : Array Value) (y x : Nat) (b : Bool) (gf gs : Nat) (w : World)
    (hS : (Try.prog.info? 98).map (·.size) = some S.size)
    (cf : w.cell? ⟨gf, 0, none⟩ = some (.func (.func 132) #[] #[])) (cs : w.heap[gs]? = some (.cells S 98 (0, 0)))
    (hR : ∀ v, Calls Try.prog 132 #[.agg S, .int .i64 y, .int .i64 x] v fun e w' => e = .returned (.bool b) ∧ Below v.heap.size v w') :
    Calls Try.prog 120 #[.int .i64 y, .int .i64 x, .pointer (some ⟨gf, 0, none⟩), .pointer (some ⟨gs, 0, none⟩)] w fun e w' =>
      e = .returned (.complex .f32 (mark b).1 (mark b).2) ∧ Below w.heap.size w w' := by
  have HS := Lib.hid hS
  have HR := Lib.hid hR
  have CS := Lib.hid cs
  clear hS hR cs
  go_enter Try.func120, Try.ntmps120
  go_wp2_with (first | (go_at_call 132; fail) | (refine wpList_load_row rfl 98 (.tmp 3) rfl gs rfl 98 S (0, 0) _ CS.out Try.underlying98 rfl HS.out ?_))
  refine (HR.out _).mono ?_
  rintro e w1 ⟨rfl, b1⟩
  go_wp2_with (go_at_call 121; fail)
  refine (cell_any _ _).mono ?_
  rintro e w2 ⟨rfl, rfl⟩
  go_wp2
  go_ret
  exact ⟨rfl, b1⟩

set_option maxRecDepth 100000 in
set_option maxHeartbeats 800000 in
theorem built_isInDisc (s : Nat) (hs : side s = true) (S : Array Value) (hS : (Try.prog.info? 98).map (·.size) = some S.size) (F : Nat → Nat × Nat) (b : Nat → Nat → Bool) (hF : ∀ i, (fin (F i).1 && fin (F i).2) = true)
    (hb : ∀ y x, y < s → x < s → F (s * y + x) = mark (b y x))
    (hR : ∀ (y x : Nat) v, y < s → x < s → Calls Try.prog 132 #[.agg S, .int .i64 y, .int .i64 x] v fun e w' => e = .returned (.bool (b y x)) ∧ Below v.heap.size v w') (w : World) :
    Calls Try.prog 93 #[.int .i64 s, .int .i64 1, .agg S] w fun e w' => e = .returned (.tuple #[.agg (pic s (gf F (s * s))), .int .i64 0]) ∧ Below w.heap.size w w' := by
  have hz37 := (zero_of_info info37').1
  have HS37 := Lib.hid (zero_of_info info37').2
  have HZ37 : Hid ((pic 0 zc).size = 65) := Lib.hid (pic_size 0 zc zc_size)
  have HFW : Hid (FinW s (pic s (gf F (s * s)))) := Lib.hid (gf_fin s F hF (s * s))
  have HB : Hid (∀ (v : World) (gf' gs : Nat), v.cell? ⟨gf', 0, none⟩ = some (.func (.func 132) #[] #[]) → v.heap[gs]? = some (.cells S 98 (0, 0)) → Calls Try.prog 72 #[.int .i64 s, .func (.func 120) #[] #[.pointer (some ⟨gf', 0, none⟩), .pointer (some ⟨gs, 0, none⟩)]] v fun e w' =>
      e = .returned (.tuple #[.agg (pic s (gf F (s * s))), .int .i64 0]) ∧ Below v.heap.size v w') := Lib.hid fun v gf' gs hf hr =>
    build2_mask s hs F hF ⟨gf', 0, none⟩ ⟨gs, 0, none⟩ v fun y x u hy hx hu => by
      rw [hb y x hy hx]
      exact clos_isInDisc S y x (b y x) gf' gs u hS (by rw [hu.cell (World.block_lt_of_cell? v _ hf)]; exact hf) (by rw [hu.block _ (Array.getElem?_eq_some_iff.1 hr).1]; exact hr) (hR y x · hy hx)
  generalize pic s (gf F (s * s)) = G at *
  generalize pic 0 zc = Z at *
  have HFI : Hid ((Try.prog.info? 32).map (·.size) = some G.size) := Lib.hid (by rw [HFW.out.1]; exact HS37.out)
  have HZF : Hid (Z.size = G.size) := Lib.hid (by rw [HFW.out.1]; exact HZ37.out)
  have HF1 := Lib.hid (finW_one HFW.out)
  clear hb hR hF hS
  have HO := openRules_any
  unfold ruleList at HO
  have hX : ∀ w, (Instr.index 117 (.agg #[.func (.func 131) #[] #[], .func (.func 132) #[] #[], .func (.func 133) #[] #[], .func (.func 134) #[] #[], .func (.func 135) #[] #[]]) (.int .i64 1)).run Try.prog w = .ok (.func (.func 132) #[] #[]) w := fun w => by simp [Instr.index, run_underlying Try.underlying117, asIntOf, go_sem]
  go_enter Try.func93, Try.ntmps93
  go_wp2_with (go_at_call 119; fail)
  refine (HO _).mono ?_
  rintro e w1 ⟨rfl, b1⟩
  have S1 : Hid (w1.heap[w.heap.size]? = some (.cells S 98 (0, 0))) := Lib.hid (by rw [b1.block _ (by rw [size_al, size_al]; omega)]; exact h2_0 _ _ _)
  have Z1 : Hid (w1.heap[w.heap.size + 1]? = some (.cells Z 32 (0, 0))) := Lib.hid (by rw [b1.block _ (by rw [size_al, size_al]; omega)]; exact h2_1 _ _ _)
  have B1 : Hid (Below w.heap.size w w1) := Lib.hid ((below_al2 w _ _).trans (b1.mono (by rw [size_al, size_al]; omega)))
  clear b1 HO
  go_wp2_with (go_at_call 72; fail)
  have HP := HB.out (w1.alloc (.cells #[.func (.func 132) #[] #[]] 116)) w1.heap.size w.heap.size (by rw [cell_of_row _ _ _ _ _ _ (h1_0 _ _)]; rfl) (by rw [heap_alloc_old _ _ (Array.getElem?_eq_some_iff.1 S1.out).1]; exact S1.out)
  refine HP.mono ?_
  rintro e w2 ⟨rfl, b2⟩
  have hlt := (Array.getElem?_eq_some_iff.1 Z1.out).1
  have Z2 : Hid (w2.heap[w.heap.size + 1]? = some (.cells Z 32 (0, 0))) := Lib.hid (by rw [b2.block _ (by rw [size_al]; omega), heap_alloc_old _ _ hlt]; exact Z1.out)
  have B2 : Hid (Below w.heap.size w w2) := Lib.hid ((B1.out.alloc B1.out.size _).trans (b2.mono (by rw [size_al]; have := B1.out.size; omega)))
  clear b2 HP Z1 B1 S1 hlt HB
  go_wp2_with (refine wpList_store_row rfl 32 (.tmp 6) (.tmp 15) rfl (w.heap.size + 1) G rfl rfl 32 Z Z2.out HFI.out HZF.out HF1.out ?_)
  refine bodyPost_ret (v := .tuple #[.agg G, .int .i64 0]) (results_row_tmp (fn := Try.f93) (p := 6) (u := 7) (ty := 32) rfl _ _ (w.heap.size + 1) 32 G (0, 0) _ rfl (setRow_heap _ _ _ _ _ _ Z2.out) Try.underlying32 rfl HFI.out) rfl ⟨rfl, ?_⟩
  exact below_setRow B2.out (by omega) _

set_option maxRecDepth 100000 in
set_option maxHeartbeats 400000 in
/-- one cell: the rule is taken out of its cell, the shape out of its row -/
theorem clos_isInGrating (S : Array Value) (y x : Nat) (b : Bool) (gf gs : Nat) (w : World)
    (hS : (Try.prog.info? 98).map (·.size) = some S.size)
    (cf : w.cell? ⟨gf, 0, none⟩ = some (.func (.func 133) #[] #[])) (cs : w.heap[gs]? = some (.cells S 98 (0, 0)))
    (hR : ∀ v, Calls Try.prog 133 #[.agg S, .int .i64 y, .int .i64 x] v fun e w' => e = .returned (.bool b) ∧ Below v.heap.size v w') :
    Calls Try.prog 120 #[.int .i64 y, .int .i64 x, .pointer (some ⟨gf, 0, none⟩), .pointer (some ⟨gs, 0, none⟩)] w fun e w' =>
      e = .returned (.complex .f32 (mark b).1 (mark b).2) ∧ Below w.heap.size w w' := by
  have HS := Lib.hid hS
  have HR := Lib.hid hR
  have CS := Lib.hid cs
  clear hS hR cs
  go_enter Try.func120, Try.ntmps120
  go_wp2_with (first | (go_at_call 133; fail) | (refine wpList_load_row rfl 98 (.tmp 3) rfl gs rfl 98 S (0, 0) _ CS.out Try.underlying98 rfl HS.out ?_))
  refine (HR.out _).mono ?_
  rintro e w1 ⟨rfl, b1⟩
  go_wp2_with (go_at_call 121; fail)
  refine (cell_any _ _).mono ?_
  rintro e w2 ⟨rfl, rfl⟩
  go_wp2
  go_ret
  exact ⟨rfl, b1⟩

set_option maxRecDepth 100000 in
set_option maxHeartbeats 800000 in
theorem built_isInGrating (s : Nat) (hs : side s = true) (S : Array Value) (hS : (Try.prog.info? 98).map (·.size) = some S.size) (F : Nat → Nat × Nat) (b : Nat → Nat → Bool) (hF : ∀ i, (fin (F i).1 && fin (F i).2) = true)
    (hb : ∀ y x, y < s → x < s → F (s * y + x) = mark (b y x))
    (hR : ∀ (y x : Nat) v, y < s → x < s → Calls Try.prog 133 #[.agg S, .int .i64 y, .int .i64 x] v fun e w' => e = .returned (.bool (b y x)) ∧ Below v.heap.size v w') (w : World) :
    Calls Try.prog 93 #[.int .i64 s, .int .i64 2, .agg S] w fun e w' => e = .returned (.tuple #[.agg (pic s (gf F (s * s))), .int .i64 0]) ∧ Below w.heap.size w w' := by
  have hz37 := (zero_of_info info37').1
  have HS37 := Lib.hid (zero_of_info info37').2
  have HZ37 : Hid ((pic 0 zc).size = 65) := Lib.hid (pic_size 0 zc zc_size)
  have HFW : Hid (FinW s (pic s (gf F (s * s)))) := Lib.hid (gf_fin s F hF (s * s))
  have HB : Hid (∀ (v : World) (gf' gs : Nat), v.cell? ⟨gf', 0, none⟩ = some (.func (.func 133) #[] #[]) → v.heap[gs]? = some (.cells S 98 (0, 0)) → Calls Try.prog 72 #[.int .i64 s, .func (.func 120) #[] #[.pointer (some ⟨gf', 0, none⟩), .pointer (some ⟨gs, 0, none⟩)]] v fun e w' =>
      e = .returned (.tuple #[.agg (pic s (gf F (s * s))), .int .i64 0]) ∧ Below v.heap.size v w') := Lib.hid fun v gf' gs hf hr =>
    build2_mask s hs F hF ⟨gf', 0, none⟩ ⟨gs, 0, none⟩ v fun y x u hy hx hu => by
      rw [hb y x hy hx]
      exact clos_isInGrating S y x (b y x) gf' gs u hS (by rw [hu.cell (World.block_lt_of_cell? v _ hf)]; exact hf) (by rw [hu.block _ (Array.getElem?_eq_some_iff.1 hr).1]; exact hr) (hR y x · hy hx)
  generalize pic s (gf F (s * s)) = G at *
  generalize pic 0 zc = Z at *
  have HFI : Hid ((Try.prog.info? 32).map (·.size) = some G.size) := Lib.hid (by rw [HFW.out.1]; exact HS37.out)
  have HZF : Hid (Z.size = G.size) := Lib.hid (by rw [HFW.out.1]; exact HZ37.out)
  have HF1 := Lib.hid (finW_one HFW.out)
  clear hb hR hF hS
  have HO := openRules_any
  unfold ruleList at HO
  have hX : ∀ w, (Instr.index 117 (.agg #[.func (.func 131) #[] #[], .func (.func 132) #[] #[], .func (.func 133) #[] #[], .func (.func 134) #[] #[], .func (.func 135) #[] #[]]) (.int .i64 2)).run Try.prog w = .ok (.func (.func 133) #[] #[]) w := fun w => by simp [Instr.index, run_underlying Try.underlying117, asIntOf, go_sem]
  go_enter Try.func93, Try.ntmps93
  go_wp2_with (go_at_call 119; fail)
  refine (HO _).mono ?_
  rintro e w1 ⟨rfl, b1⟩
  have S1 : Hid (w1.heap[w.heap.size]? = some (.cells S 98 (0, 0))) := Lib.hid (by rw [b1.block _ (by rw [size_al, size_al]; omega)]; exact h2_0 _ _ _)
  have Z1 : Hid (w1.heap[w.heap.size + 1]? = some (.cells Z 32 (0, 0))) := Lib.hid (by rw [b1.block _ (by rw [size_al, size_al]; omega)]; exact h2_1 _ _ _)
  have B1 : Hid (Below w.heap.size w w1) := Lib.hid ((below_al2 w _ _).trans (b1.mono (by rw [size_al, size_al]; omega)))
  clear b1 HO
  go_wp2_with (go_at_call 72; fail)
  have HP := HB.out (w1.alloc (.cells #[.func (.func 133) #[] #[]] 116)) w1.heap.size w.heap.size (by rw [cell_of_row _ _ _ _ _ _ (h1_0 _ _)]; rfl) (by rw [heap_alloc_old _ _ (Array.getElem?_eq_some_iff.1 S1.out).1]; exact S1.out)
  refine HP.mono ?_
  rintro e w2 ⟨rfl, b2⟩
  have hlt := (Array.getElem?_eq_some_iff.1 Z1.out).1
  have Z2 : Hid (w2.heap[w.heap.size + 1]? = some (.cells Z 32 (0, 0))) := Lib.hid (by rw [b2.block _ (by rw [size_al]; omega), heap_alloc_old _ _ hlt]; exact Z1.out)
  have B2 : Hid (Below w.heap.size w w2) := Lib.hid ((B1.out.alloc B1.out.size _).trans (b2.mono (by rw [size_al]; have := B1.out.size; omega)))
  clear b2 HP Z1 B1 S1 hlt HB
  go_wp2_with (refine wpList_store_row rfl 32 (.tmp 6) (.tmp 15) rfl (w.heap.size + 1) G rfl rfl 32 Z Z2.out HFI.out HZF.out HF1.out ?_)
  refine bodyPost_ret (v := .tuple #[.agg G, .int .i64 0]) (results_row_tmp (fn := Try.f93) (p := 6) (u := 7) (ty := 32) rfl _ _ (w.heap.size + 1) 32 G (0, 0) _ rfl (setRow_heap _ _ _ _ _ _ Z2.out) Try.underlying32 rfl HFI.out) rfl ⟨rfl, ?_⟩
  exact below_setRow B2.out (by omega) _

set_option maxRecDepth 100000 in
set_option maxHeartbeats 400000 in
/-- one cell: the rule is taken out of its cell, the shape out of its row -/
theorem clos_isInCheck (S : Array Value) (y x : Nat) (b : Bool) (gf gs : Nat) (w : World)
    (hS : (Try.prog.info? 98).map (·.size) = some S.size)
    (cf : w.cell? ⟨gf, 0, none⟩ = some (.func (.func 134) #[] #[])) (cs : w.heap[gs]? = some (.cells S 98 (0, 0)))
    (hR : ∀ v, Calls Try.prog 134 #[.agg S, .int .i64 y, .int .i64 x] v fun e w' => e = .returned (.bool b) ∧ Below v.heap.size v w') :
    Calls Try.prog 120 #[.int .i64 y, .int .i64 x, .pointer (some ⟨gf, 0, none⟩), .pointer (some ⟨gs, 0, none⟩)] w fun e w' =>
      e = .returned (.complex .f32 (mark b).1 (mark b).2) ∧ Below w.heap.size w w' := by
  have HS := Lib.hid hS
  have HR := Lib.hid hR
  have CS := Lib.hid cs
  clear hS hR cs
  go_enter Try.func120, Try.ntmps120
  go_wp2_with (first | (go_at_call 134; fail) | (refine wpList_load_row rfl 98 (.tmp 3) rfl gs rfl 98 S (0, 0) _ CS.out Try.underlying98 rfl HS.out ?_))
  refine (HR.out _).mono ?_
  rintro e w1 ⟨rfl, b1⟩
  go_wp2_with (go_at_call 121; fail)
  refine (cell_any _ _).mono ?_
  rintro e w2 ⟨rfl, rfl⟩
  go_wp2
  go_ret
  exact ⟨rfl, b1⟩

set_option maxRecDepth 100000 in
set_option maxHeartbeats 800000 in
theorem built_isInCheck (s : Nat) (hs : side s = true) (S : Array Value) (hS : (Try.prog.info? 98).map (·.size) = some S.size) (F : Nat → Nat × Nat) (b : Nat → Nat → Bool) (hF : ∀ i, (fin (F i).1 && fin (F i).2) = true)
    (hb : ∀ y x, y < s → x < s → F (s * y + x) = mark (b y x))
    (hR : ∀ (y x : Nat) v, y < s → x < s → Calls Try.prog 134 #[.agg S, .int .i64 y, .int .i64 x] v fun e w' => e = .returned (.bool (b y x)) ∧ Below v.heap.size v w') (w : World) :
    Calls Try.prog 93 #[.int .i64 s, .int .i64 3, .agg S] w fun e w' => e = .returned (.tuple #[.agg (pic s (gf F (s * s))), .int .i64 0]) ∧ Below w.heap.size w w' := by
  have hz37 := (zero_of_info info37').1
  have HS37 := Lib.hid (zero_of_info info37').2
  have HZ37 : Hid ((pic 0 zc).size = 65) := Lib.hid (pic_size 0 zc zc_size)
  have HFW : Hid (FinW s (pic s (gf F (s * s)))) := Lib.hid (gf_fin s F hF (s * s))
  have HB : Hid (∀ (v : World) (gf' gs : Nat), v.cell? ⟨gf', 0, none⟩ = some (.func (.func 134) #[] #[]) → v.heap[gs]? = some (.cells S 98 (0, 0)) → Calls Try.prog 72 #[.int .i64 s, .func (.func 120) #[] #[.pointer (some ⟨gf', 0, none⟩), .pointer (some ⟨gs, 0, none⟩)]] v fun e w' =>
      e = .returned (.tuple #[.agg (pic s (gf F (s * s))), .int .i64 0]) ∧ Below v.heap.size v w') := Lib.hid fun v gf' gs hf hr =>
    build2_mask s hs F hF ⟨gf', 0, none⟩ ⟨gs, 0, none⟩ v fun y x u hy hx hu => by
      rw [hb y x hy hx]
      exact clos_isInCheck S y x (b y x) gf' gs u hS (by rw [hu.cell (World.block_lt_of_cell? v _ hf)]; exact hf) (by rw [hu.block _ (Array.getElem?_eq_some_iff.1 hr).1]; exact hr) (hR y x · hy hx)
  generalize pic s (gf F (s * s)) = G at *
  generalize pic 0 zc = Z at *
  have HFI : Hid ((Try.prog.info? 32).map (·.size) = some G.size) := Lib.hid (by rw [HFW.out.1]; exact HS37.out)
  have HZF : Hid (Z.size = G.size) := Lib.hid (by rw [HFW.out.1]; exact HZ37.out)
  have HF1 := Lib.hid (finW_one HFW.out)
  clear hb hR hF hS
  have HO := openRules_any
  unfold ruleList at HO
  have hX : ∀ w, (Instr.index 117 (.agg #[.func (.func 131) #[] #[], .func (.func 132) #[] #[], .func (.func 133) #[] #[], .func (.func 134) #[] #[], .func (.func 135) #[] #[]]) (.int .i64 3)).run Try.prog w = .ok (.func (.func 134) #[] #[]) w := fun w => by simp [Instr.index, run_underlying Try.underlying117, asIntOf, go_sem]
  go_enter Try.func93, Try.ntmps93
  go_wp2_with (go_at_call 119; fail)
  refine (HO _).mono ?_
  rintro e w1 ⟨rfl, b1⟩
  have S1 : Hid (w1.heap[w.heap.size]? = some (.cells S 98 (0, 0))) := Lib.hid (by rw [b1.block _ (by rw [size_al, size_al]; omega)]; exact h2_0 _ _ _)
  have Z1 : Hid (w1.heap[w.heap.size + 1]? = some (.cells Z 32 (0, 0))) := Lib.hid (by rw [b1.block _ (by rw [size_al, size_al]; omega)]; exact h2_1 _ _ _)
  have B1 : Hid (Below w.heap.size w w1) := Lib.hid ((below_al2 w _ _).trans (b1.mono (by rw [size_al, size_al]; omega)))
  clear b1 HO
  go_wp2_with (go_at_call 72; fail)
  have HP := HB.out (w1.alloc (.cells #[.func (.func 134) #[] #[]] 116)) w1.heap.size w.heap.size (by rw [cell_of_row _ _ _ _ _ _ (h1_0 _ _)]; rfl) (by rw [heap_alloc_old _ _ (Array.getElem?_eq_some_iff.1 S1.out).1]; exact S1.out)
  refine HP.mono ?_
  rintro e w2 ⟨rfl, b2⟩
  have hlt := (Array.getElem?_eq_some_iff.1 Z1.out).1
  have Z2 : Hid (w2.heap[w.heap.size + 1]? = some (.cells Z 32 (0, 0))) := Lib.hid (by rw [b2.block _ (by rw [size_al]; omega), heap_alloc_old _ _ hlt]; exact Z1.out)
  have B2 : Hid (Below w.heap.size w w2) := Lib.hid ((B1.out.alloc B1.out.size _).trans (b2.mono (by rw [size_al]; have := B1.out.size; omega)))
  clear b2 HP Z1 B1 S1 hlt HB
  go_wp2_with (refine wpList_store_row rfl 32 (.tmp 6) (.tmp 15) rfl (w.heap.size + 1) G rfl rfl 32 Z Z2.out HFI.out HZF.out HF1.out ?_)
  refine bodyPost_ret (v := .tuple #[.agg G, .int .i64 0]) (results_row_tmp (fn := Try.f93) (p := 6) (u := 7) (ty := 32) rfl _ _ (w.heap.size + 1) 32 G (0, 0) _ rfl (setRow_heap _ _ _ _ _ _ Z2.out) Try.underlying32 rfl HFI.out) rfl ⟨rfl, ?_⟩
  exact below_setRow B2.out (by omega) _

set_option maxRecDepth 100000 in
set_option maxHeartbeats 400000 in
/-- one cell: the rule is taken out of its cell, the shape out of its row -/
theorem clos_isInZones (S : Array Value) (y x : Nat) (b : Bool) (gf gs : Nat) (w : World)
    (hS : (Try.prog.info? 98).map (·.size) = some S.size)
    (cf : w.cell? ⟨gf, 0, none⟩ = some (.func (.func 135) #[] #[])) (cs : w.heap[gs]? = some (.cells S 98 (0, 0)))
    (hR : ∀ v, Calls Try.prog 135 #[.agg S, .int .i64 y, .int .i64 x] v fun e w' => e = .returned (.bool b) ∧ Below v.heap.size v w') :
    Calls Try.prog 120 #[.int .i64 y, .int .i64 x, .pointer (some ⟨gf, 0, none⟩), .pointer (some ⟨gs, 0, none⟩)] w fun e w' =>
      e = .returned (.complex .f32 (mark b).1 (mark b).2) ∧ Below w.heap.size w w' := by
  have HS := Lib.hid hS
  have HR := Lib.hid hR
  have CS := Lib.hid cs
  clear hS hR cs
  go_enter Try.func120, Try.ntmps120
  go_wp2_with (first | (go_at_call 135; fail) | (refine wpList_load_row rfl 98 (.tmp 3) rfl gs rfl 98 S (0, 0) _ CS.out Try.underlying98 rfl HS.out ?_))
  refine (HR.out _).mono ?_
  rintro e w1 ⟨rfl, b1⟩
  go_wp2_with (go_at_call 121; fail)
  refine (cell_any _ _).mono ?_
  rintro e w2 ⟨rfl, rfl⟩
  go_wp2
  go_ret
  exact ⟨rfl, b1⟩

set_option maxRecDepth 100000 in
set_option maxHeartbeats 800000 in
theorem built_isInZones (s : Nat) (hs : side s = true) (S : Array Value) (hS : (Try.prog.info? 98).map (·.size) = some S.size) (F : Nat → Nat × Nat) (b : Nat → Nat → Bool) (hF : ∀ i, (fin (F i).1 && fin (F i).2) = true)
    (hb : ∀ y x, y < s → x < s → F (s * y + x) = mark (b y x))
    (hR : ∀ (y x : Nat) v, y < s → x < s → Calls Try.prog 135 #[.agg S, .int .i64 y, .int .i64 x] v fun e w' => e = .returned (.bool (b y x)) ∧ Below v.heap.size v w') (w : World) :
    Calls Try.prog 93 #[.int .i64 s, .int .i64 4, .agg S] w fun e w' => e = .returned (.tuple #[.agg (pic s (gf F (s * s))), .int .i64 0]) ∧ Below w.heap.size w w' := by
  have hz37 := (zero_of_info info37').1
  have HS37 := Lib.hid (zero_of_info info37').2
  have HZ37 : Hid ((pic 0 zc).size = 65) := Lib.hid (pic_size 0 zc zc_size)
  have HFW : Hid (FinW s (pic s (gf F (s * s)))) := Lib.hid (gf_fin s F hF (s * s))
  have HB : Hid (∀ (v : World) (gf' gs : Nat), v.cell? ⟨gf', 0, none⟩ = some (.func (.func 135) #[] #[]) → v.heap[gs]? = some (.cells S 98 (0, 0)) → Calls Try.prog 72 #[.int .i64 s, .func (.func 120) #[] #[.pointer (some ⟨gf', 0, none⟩), .pointer (some ⟨gs, 0, none⟩)]] v fun e w' =>
      e = .returned (.tuple #[.agg (pic s (gf F (s * s))), .int .i64 0]) ∧ Below v.heap.size v w') := Lib.hid fun v gf' gs hf hr =>
    build2_mask s hs F hF ⟨gf', 0, none⟩ ⟨gs, 0, none⟩ v fun y x u hy hx hu => by
      rw [hb y x hy hx]
      exact clos_isInZones S y x (b y x) gf' gs u hS (by rw [hu.cell (World.block_lt_of_cell? v _ hf)]; exact hf) (by rw [hu.block _ (Array.getElem?_eq_some_iff.1 hr).1]; exact hr) (hR y x · hy hx)
  generalize pic s (gf F (s * s)) = G at *
  generalize pic 0 zc = Z at *
  have HFI : Hid ((Try.prog.info? 32).map (·.size) = some G.size) := Lib.hid (by rw [HFW.out.1]; exact HS37.out)
  have HZF : Hid (Z.size = G.size) := Lib.hid (by rw [HFW.out.1]; exact HZ37.out)
  have HF1 := Lib.hid (finW_one HFW.out)
  clear hb hR hF hS
  have HO := openRules_any
  unfold ruleList at HO
  have hX : ∀ w, (Instr.index 117 (.agg #[.func (.func 131) #[] #[], .func (.func 132) #[] #[], .func (.func 133) #[] #[], .func (.func 134) #[] #[], .func (.func 135) #[] #[]]) (.int .i64 4)).run Try.prog w = .ok (.func (.func 135) #[] #[]) w := fun w => by simp [Instr.index, run_underlying Try.underlying117, asIntOf, go_sem]
  go_enter Try.func93, Try.ntmps93
  go_wp2_with (go_at_call 119; fail)
  refine (HO _).mono ?_
  rintro e w1 ⟨rfl, b1⟩
  have S1 : Hid (w1.heap[w.heap.size]? = some (.cells S 98 (0, 0))) := Lib.hid (by rw [b1.block _ (by rw [size_al, size_al]; omega)]; exact h2_0 _ _ _)
  have Z1 : Hid (w1.heap[w.heap.size + 1]? = some (.cells Z 32 (0, 0))) := Lib.hid (by rw [b1.block _ (by rw [size_al, size_al]; omega)]; exact h2_1 _ _ _)
  have B1 : Hid (Below w.heap.size w w1) := Lib.hid ((below_al2 w _ _).trans (b1.mono (by rw [size_al, size_al]; omega)))
  clear b1 HO
  go_wp2_with (go_at_call 72; fail)
  have HP := HB.out (w1.alloc (.cells #[.func (.func 135) #[] #[]] 116)) w1.heap.size w.heap.size (by rw [cell_of_row _ _ _ _ _ _ (h1_0 _ _)]; rfl) (by rw [heap_alloc_old _ _ (Array.getElem?_eq_some_iff.1 S1.out).1]; exact S1.out)
  refine HP.mono ?_
  rintro e w2 ⟨rfl, b2⟩
  have hlt := (Array.getElem?_eq_some_iff.1 Z1.out).1
  have Z2 : Hid (w2.heap[w.heap.size + 1]? = some (.cells Z 32 (0, 0))) := Lib.hid (by rw [b2.block _ (by rw [size_al]; omega), heap_alloc_old _ _ hlt]; exact Z1.out)
  have B2 : Hid (Below w.heap.size w w2) := Lib.hid ((B1.out.alloc B1.out.size _).trans (b2.mono (by rw [size_al]; have := B1.out.size; omega)))
  clear b2 HP Z1 B1 S1 hlt HB
  go_wp2_with (refine wpList_store_row rfl 32 (.tmp 6) (.tmp 15) rfl (w.heap.size + 1) G rfl rfl 32 Z Z2.out HFI.out HZF.out HF1.out ?_)
  refine bodyPost_ret (v := .tuple #[.agg G, .int .i64 0]) (results_row_tmp (fn := Try.f93) (p := 6) (u := 7) (ty := 32) rfl _ _ (w.heap.size + 1) 32 G (0, 0) _ rfl (setRow_heap _ _ _ _ _ _ Z2.out) Try.underlying32 rfl HFI.out) rfl ⟨rfl, ?_⟩
  exact below_setRow B2.out (by omega) _
end Go.Proofs.Ytjmfffgddmnkmaa
