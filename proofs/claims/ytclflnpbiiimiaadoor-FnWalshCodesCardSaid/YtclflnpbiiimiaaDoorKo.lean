/- The model's picture of sums: the picture and the code. Condition: as many numbers as a law lets in. -/
import Derived.Test.YtclflnpbiiimiaaDoorM19
import Derived.Test.YtclflnpbiiimiaaDoorM15
namespace Go.Proofs.YtclflnpbiiimiaaDoor
open Go Go.RowKit Ieee

/-- 64 floats, the first k by a rule, the others 0 -/
def gl (F : Nat → Nat) (k : Nat) : Array Value := Array.ofFn (n := 64) fun i => if i.val < k then .float .f32 (F i.val) else .float .f32 0
theorem gl_get (F : Nat → Nat) (k i : Nat) : (gl F k)[i]? = if i < 64 then some (if i < k then .float .f32 (F i) else .float .f32 0) else none := by
  simp only [gl, Array.getElem?_ofFn]
  by_cases h : i < 64 <;> simp [h]
theorem gl_size (F : Nat → Nat) (k : Nat) : (gl F k).size = 64 := by simp [gl]
theorem gl_zero (F : Nat → Nat) : gl F 0 = zero64 := by
  apply Array.ext_getElem?
  intro i
  rw [gl_get]
  simp only [zero64, Array.getElem?_replicate]
  split <;> simp
theorem gl_set (s : Int) (F : Nat → Nat) (k : Nat) (hk : k < 64) : (pic s (gl F k)).setIfInBounds (1 + k) (.float .f32 (F k)) = pic s (gl F (k + 1)) := by
  apply Array.ext_getElem?
  intro i
  rw [Array.getElem?_setIfInBounds, pic_size _ _ (gl_size F k)]
  cases i with
  | zero => rw [if_neg (by omega), pic_zero, pic_zero]
  | succ i =>
    rw [pic_succ, pic_succ, gl_get, gl_get]
    by_cases h1 : 1 + k = i + 1
    · obtain rfl : k = i := by omega
      simp [hk, show 1 + k = k + 1 by omega]
    · rw [if_neg h1]
      by_cases h2 : i < k
      · simp [h2, show i < k + 1 by omega]
      · simp [h2, show ¬ i < k + 1 by omega]
theorem gl_old (s : Int) (F : Nat → Nat) (k : Nat) (hk : k < 64) : (pic s (gl F k))[1 + k]? = some (.float .f32 0) := by
  rw [Nat.add_comm, pic_succ, gl_get, if_pos hk, if_neg (by omega)]
theorem gl_one (s : Int) (F : Nat → Nat) (k : Nat) : (pic s (gl F k)).all (·.oneCell') = true := by
  rw [Array.all_eq_true_iff_forall_mem]
  intro v hv
  obtain ⟨i, hi, he⟩ := Array.mem_iff_getElem.1 hv
  have h := Array.getElem?_eq_getElem hi
  rw [he] at h
  cases i with
  | zero => rw [pic_zero] at h; cases h; rfl
  | succ i =>
    rw [pic_succ, gl_get] at h
    split at h
    · cases h
      split <;> rfl
    · cases h

theorem ord_num (x : Nat) (hx : NotNan x) : ∃ o, ordF x 0 = some o := by
  have h0 : single.read 0 = .number false 0 (-149) := by decide
  rw [ordF_read, h0]
  rcases hx with ⟨s, m, p, h⟩ | ⟨s, h⟩
  · rw [h]; exact ⟨_, rfl⟩
  · rw [h]; cases s <;> exact ⟨_, rfl⟩
theorem run_max0 (x : Nat) (hx : NotNan x) (ts : Array TypeId) (t : TypeId) (w : World) : (Builtin.max_ ts t #[.float .f32 x, .float .f32 0]).run Tryd.prog w = .ok (.float .f32 (mx2 x 0)) w := by
  obtain ⟨o, ho⟩ := ord_num x hx
  have ho' : FloatKind.f32.format.order x 0 = some o := ho
  have hd : FloatKind.f32.decode x = Ieee.single.read x := rfl
  unfold mx2
  rw [ho]
  cases o <;> simp [Builtin.max_, Builtin.max2, ho', hd]

def psOk (n : Int) (A : List Nat) : Bool := side n && decide ((A.length : Int) = n * n)
/-- the code, the side and the levels of the picture of sums -/
def pcC (n : Int) (A : List Nat) : Int := if A.all fin = false then 1 else if psOk n A = false then 2 else sbCode A
def pcF (A : List Nat) : Nat → Nat := fun i => mx2 ((bkList A).getD i 0) 0
def pcS (n : Int) (A : List Nat) : Int := if pcC n A = 0 then n else 0
def pcZ (n : Int) (A : List Nat) : Array Value := if pcC n A = 0 then gl (pcF A) A.length else zero64
/-- what is asked of a function of a number and a list that answers a picture and a code -/
def PicC (f : FuncId) (n : Int) (A : List Nat) (s : Int) (zs : Array Value) (c : Int) : Prop :=
  A.length ≤ 1048576 → ∀ v w, OwnF 0 v A w → Calls Tryd.prog f #[.int .i64 n, v] w fun e w' => e = .returned (.tuple #[.agg (pic s zs), .int .i64 c]) ∧ Below w.heap.size w w'
theorem pc_other {n : Int} {A : List Nat} {c : Int} (h : pcC n A = c) (hc : c ≠ 0) : pcS n A = 0 ∧ pcZ n A = zero64 := by
  unfold pcS pcZ
  rw [if_neg (by omega), if_neg (by omega)]
  exact ⟨rfl, rfl⟩

set_option maxRecDepth 100000 in
set_option maxHeartbeats 800000 in
theorem specPc_nan (n : Int) (A : List Nat) (h : A.all fin = false) : PicC 24 n A (pcS n A) (pcZ n A) (pcC n A) := by
  intro hA v w hO
  obtain ⟨a, cap, rfl, hC⟩ := hO.came
  have hc : pcC n A = 1 := by unfold pcC; rw [if_pos h]
  obtain ⟨e1, e2⟩ := pc_other hc (by decide)
  rw [e1, e2, hc]
  have HF : Hid (∀ u, CameF a A.length A u → Calls Tryd.prog 46 #[.slice a A.length cap] u fun e w' => e = .returned (.bool false) ∧ ∃ d, w' = u.drewN d) := Lib.hid (fun u hu => by rw [← h]; exact l10Fine_any a A.length cap A u hu hA)
  have HC := Lib.hid hC
  have hz37 := (zero_of_info info32).1
  have HI : Hid ((Tryd.prog.info? 41).map (·.size) = some (pic 0 zero64).size) := Lib.hid (by rw [pic_size 0 zero64 (by simp [zero64])]; exact (zero_of_info info32).2)
  have H1 : Hid ((pic 0 zero64).all (·.oneCell') = true) := Lib.hid (by rw [← gl_zero (fun _ => 0)]; exact gl_one _ _ _)
  have hne : ¬ pic 0 zero64 = #[] := fun e => by
    have := congrArg Array.size e
    rw [pic_size 0 zero64 (by simp [zero64])] at this
    simp at this
  generalize pic 0 zero64 = Z at *
  clear h hO hC hc e1 e2 hA
  generalize A.length = m at *
  go_enter Tryd.func24, Tryd.ntmps24
  go_wp2_with fail
  refine (HF.out _ (HC.out.below ((Below.refl _ _).alloc (Nat.le_refl _) _) (Nat.le_refl _))).mono ?_
  rintro e w1 ⟨rfl, d, rfl⟩
  have G : Hid (((w.alloc (.cells Z 41)).drewN d).heap[w.heap.size]? = some (.cells Z 41 (0, 0))) := Lib.hid (h1_0 _ _)
  have B : Hid (Below w.heap.size w ((w.alloc (.cells Z 41)).drewN d)) := Lib.hid (below_drewN ((Below.refl _ _).alloc (Nat.le_refl _) _) d)
  generalize (w.alloc (.cells Z 41)).drewN d = u at *
  go_wp2_with (refine wpList_store_row rfl 41 (.tmp 4) (.tmp 14) rfl w.heap.size Z rfl rfl 41 Z G.out HI.out rfl H1.out ?_)
  refine bodyPost_ret (v := .tuple #[.agg Z, .int .i64 1]) (results_row_tmp (fn := Tryd.f24) (p := 4) (u := 5) (ty := 41) rfl _ _ w.heap.size 41 Z (0, 0) _ rfl (setRow_heap _ _ _ _ _ _ G.out) Tryd.underlying41 rfl HI.out) rfl ⟨rfl, ?_⟩
  exact below_setRow B.out (Nat.le_refl _) _

set_option maxRecDepth 100000 in
set_option maxHeartbeats 1600000 in
theorem specPc_side (n : Int) (A : List Nat) (h : A.all fin = true) (hs : side n = false) : PicC 24 n A (pcS n A) (pcZ n A) (pcC n A) := by
  intro hA v w hO
  obtain ⟨a, cap, rfl, hC⟩ := hO.came
  have hk : psOk n A = false := by unfold psOk; rw [hs]; rfl
  have hc : pcC n A = 2 := by unfold pcC; rw [if_neg (by rw [h]; decide), if_pos hk]
  obtain ⟨e1, e2⟩ := pc_other hc (by decide)
  rw [e1, e2, hc]
  have HF : Hid (∀ u, CameF a A.length A u → Calls Tryd.prog 46 #[.slice a A.length cap] u fun e w' => e = .returned (.bool true) ∧ ∃ d, w' = u.drewN d) := Lib.hid (fun u hu => by rw [← h]; exact l10Fine_any a A.length cap A u hu hA)
  have HC := Lib.hid hC
  have hz37 := (zero_of_info info32).1
  have HI : Hid ((Tryd.prog.info? 41).map (·.size) = some (pic 0 zero64).size) := Lib.hid (by rw [pic_size 0 zero64 (by simp [zero64])]; exact (zero_of_info info32).2)
  have H1 : Hid ((pic 0 zero64).all (·.oneCell') = true) := Lib.hid (by rw [← gl_zero (fun _ => 0)]; exact gl_one _ _ _)
  have hne : ¬ pic 0 zero64 = #[] := fun e => by
    have := congrArg Array.size e
    rw [pic_size 0 zero64 (by simp [zero64])] at this
    simp at this
  have HSD : Hid (∀ z, Calls Tryd.prog 51 #[.int .i64 n] z fun e w' => e = .returned (.bool false) ∧ z = w') := Lib.hid (fun z => by rw [← hs]; exact l01Side_any n z)
  generalize pic 0 zero64 = Z at *
  clear h hO hC hA hc e1 e2 hk hs
  generalize A.length = m at *
  go_enter Tryd.func24, Tryd.ntmps24
  go_wp2_with fail
  refine (HF.out _ (HC.out.below ((Below.refl _ _).alloc (Nat.le_refl _) _) (Nat.le_refl _))).mono ?_
  rintro e w1 ⟨rfl, d, rfl⟩
  have G : Hid (((w.alloc (.cells Z 41)).drewN d).heap[w.heap.size]? = some (.cells Z 41 (0, 0))) := Lib.hid (h1_0 _ _)
  have B : Hid (Below w.heap.size w ((w.alloc (.cells Z 41)).drewN d)) := Lib.hid (below_drewN ((Below.refl _ _).alloc (Nat.le_refl _) _) d)
  generalize (w.alloc (.cells Z 41)).drewN d = u at *
  go_wp2_with fail
  refine (HSD.out _).mono ?_
  rintro e w' ⟨rfl, rfl⟩
  go_wp2_with (refine wpList_store_row rfl 41 (.tmp 4) (.tmp 27) rfl w.heap.size Z rfl rfl 41 Z G.out HI.out rfl H1.out ?_)
  refine bodyPost_ret (v := .tuple #[.agg Z, .int .i64 2]) (results_row_tmp (fn := Tryd.f24) (p := 4) (u := 5) (ty := 41) rfl _ _ w.heap.size 41 Z (0, 0) _ rfl (setRow_heap _ _ _ _ _ _ G.out) Tryd.underlying41 rfl HI.out) rfl ⟨rfl, ?_⟩
  exact below_setRow B.out (Nat.le_refl _) _

set_option maxRecDepth 100000 in
set_option maxHeartbeats 1600000 in
theorem specPc_len (s : Nat) (A : List Nat) (h : A.all fin = true) (hs : side (s : Int) = true) (hl : A.length ≠ s * s) : PicC 24 s A (pcS s A) (pcZ s A) (pcC s A) := by
  intro hA v w hO
  obtain ⟨a, cap, rfl, hC⟩ := hO.came
  have hk : psOk s A = false := by
    unfold psOk
    rw [hs, Bool.true_and, ← Int.natCast_mul]
    simp
    omega
  have hc : pcC s A = 2 := by unfold pcC; rw [if_neg (by rw [h]; decide), if_pos hk]
  obtain ⟨e1, e2⟩ := pc_other hc (by decide)
  rw [e1, e2, hc]
  have HF : Hid (∀ u, CameF a A.length A u → Calls Tryd.prog 46 #[.slice a A.length cap] u fun e w' => e = .returned (.bool true) ∧ ∃ d, w' = u.drewN d) := Lib.hid (fun u hu => by rw [← h]; exact l10Fine_any a A.length cap A u hu hA)
  have HC := Lib.hid hC
  have hz37 := (zero_of_info info32).1
  have HI : Hid ((Tryd.prog.info? 41).map (·.size) = some (pic 0 zero64).size) := Lib.hid (by rw [pic_size 0 zero64 (by simp [zero64])]; exact (zero_of_info info32).2)
  have H1 : Hid ((pic 0 zero64).all (·.oneCell') = true) := Lib.hid (by rw [← gl_zero (fun _ => 0)]; exact gl_one _ _ _)
  have hne : ¬ pic 0 zero64 = #[] := fun e => by
    have := congrArg Array.size e
    rw [pic_size 0 zero64 (by simp [zero64])] at this
    simp at this
  have hss := sq_le2 s hs
  have hsq : (s : Int) * s = ((s * s : Nat) : Int) := by rw [Int.natCast_mul]
  have e5 : IntKind.i64.wrap ((s : Int) * s) = ((s * s : Nat) : Int) := (IntWalk.i64_in _ (by omega)).trans hsq
  have HSD : Hid (∀ z, Calls Tryd.prog 51 #[.int .i64 (s : Int)] z fun e w' => e = .returned (.bool true) ∧ z = w') := Lib.hid (fun z => by rw [← hs]; exact l01Side_any _ z)
  have hnn : ((A.length : Int) != ((s * s : Nat) : Int)) = true := by simp; omega
  generalize pic 0 zero64 = Z at *
  clear h hO hC hA hc e1 e2 hk hs hsq hss hl
  generalize A.length = m at *
  generalize s * s = N at *
  go_enter Tryd.func24, Tryd.ntmps24
  go_wp2_with fail
  refine (HF.out _ (HC.out.below ((Below.refl _ _).alloc (Nat.le_refl _) _) (Nat.le_refl _))).mono ?_
  rintro e w1 ⟨rfl, d, rfl⟩
  have G : Hid (((w.alloc (.cells Z 41)).drewN d).heap[w.heap.size]? = some (.cells Z 41 (0, 0))) := Lib.hid (h1_0 _ _)
  have B : Hid (Below w.heap.size w ((w.alloc (.cells Z 41)).drewN d)) := Lib.hid (below_drewN ((Below.refl _ _).alloc (Nat.le_refl _) _) d)
  generalize (w.alloc (.cells Z 41)).drewN d = u at *
  go_wp2_with fail
  refine (HSD.out _).mono ?_
  rintro e w' ⟨rfl, rfl⟩
  go_wp2_with (refine wpList_store_row rfl 41 (.tmp 4) (.tmp 27) rfl w.heap.size Z rfl rfl 41 Z G.out HI.out rfl H1.out ?_)
  refine bodyPost_ret (v := .tuple #[.agg Z, .int .i64 2]) (results_row_tmp (fn := Tryd.f24) (p := 4) (u := 5) (ty := 41) rfl _ _ w.heap.size 41 Z (0, 0) _ rfl (setRow_heap _ _ _ _ _ _ G.out) Tryd.underlying41 rfl HI.out) rfl ⟨rfl, ?_⟩
  exact below_setRow B.out (Nat.le_refl _) _

set_option maxRecDepth 100000 in
set_option maxHeartbeats 1600000 in
theorem specPc_lim (s : Nat) (A : List Nat) (h : A.all fin = true) (hs : side (s : Int) = true) (hl : A.length = s * s) (ho : okRnd A (lg A.length) = false) : PicC 24 s A (pcS s A) (pcZ s A) (pcC s A) := by
  intro hA v w hO
  obtain ⟨a, cap, rfl, hC⟩ := hO.came
  have hk : psOk s A = true := by
    unfold psOk
    rw [hs, Bool.true_and, ← Int.natCast_mul, hl]
    simp
  have hlen : lenI (A.length : Int) = true := by
    rw [hl]
    rcases side_yes _ hs with e | e | e | e
    · obtain rfl : s = 1 := by omega
      rfl
    · obtain rfl : s = 2 := by omega
      rfl
    · obtain rfl : s = 4 := by omega
      rfl
    · obtain rfl : s = 8 := by omega
      rfl
  have h3 := sb_lim h hlen ho
  have hc : pcC s A = 3 := by unfold pcC; rw [if_neg (by rw [h]; decide), if_neg (by rw [hk]; decide)]; exact h3.1
  obtain ⟨e1, e2⟩ := pc_other hc (by decide)
  rw [e1, e2, hc]
  have HBK : Hid (∀ u, CameF a A.length A u → Calls Tryd.prog 49 #[.slice a A.length cap] u fun e w' => ∃ r, e = .returned (.tuple #[r, .int .i64 3]) ∧ OwnF u.heap.size r [] w' ∧ Below u.heap.size u w') := Lib.hid (fun u hu => by
    have := l10Back_any a A.length cap A u hu hlen h
    rw [h3.1, h3.2.2] at this
    exact this)
  have HF : Hid (∀ u, CameF a A.length A u → Calls Tryd.prog 46 #[.slice a A.length cap] u fun e w' => e = .returned (.bool true) ∧ ∃ d, w' = u.drewN d) := Lib.hid (fun u hu => by rw [← h]; exact l10Fine_any a A.length cap A u hu hA)
  have HC := Lib.hid hC
  have hz37 := (zero_of_info info32).1
  have HI : Hid ((Tryd.prog.info? 41).map (·.size) = some (pic 0 zero64).size) := Lib.hid (by rw [pic_size 0 zero64 (by simp [zero64])]; exact (zero_of_info info32).2)
  have H1 : Hid ((pic 0 zero64).all (·.oneCell') = true) := Lib.hid (by rw [← gl_zero (fun _ => 0)]; exact gl_one _ _ _)
  have hne : ¬ pic 0 zero64 = #[] := fun e => by
    have := congrArg Array.size e
    rw [pic_size 0 zero64 (by simp [zero64])] at this
    simp at this
  have hss := sq_le2 s hs
  have hsq : (s : Int) * s = ((s * s : Nat) : Int) := by rw [Int.natCast_mul]
  have e5 : IntKind.i64.wrap ((s : Int) * s) = ((s * s : Nat) : Int) := (IntWalk.i64_in _ (by omega)).trans hsq
  have HSD : Hid (∀ z, Calls Tryd.prog 51 #[.int .i64 (s : Int)] z fun e w' => e = .returned (.bool true) ∧ z = w') := Lib.hid (fun z => by rw [← hs]; exact l01Side_any _ z)
  have hnn : ((A.length : Int) != ((s * s : Nat) : Int)) = false := by simp; omega
  generalize pic 0 zero64 = Z at *
  clear h hO hC hA hc e1 e2 hk hs hsq hss h3 hlen ho hl
  generalize A.length = m at *
  generalize s * s = N at *
  go_enter Tryd.func24, Tryd.ntmps24
  go_wp2_with fail
  refine (HF.out _ (HC.out.below ((Below.refl _ _).alloc (Nat.le_refl _) _) (Nat.le_refl _))).mono ?_
  rintro e w1 ⟨rfl, d, rfl⟩
  have G : Hid (((w.alloc (.cells Z 41)).drewN d).heap[w.heap.size]? = some (.cells Z 41 (0, 0))) := Lib.hid (h1_0 _ _)
  have B : Hid (Below w.heap.size w ((w.alloc (.cells Z 41)).drewN d)) := Lib.hid (below_drewN ((Below.refl _ _).alloc (Nat.le_refl _) _) d)
  generalize (w.alloc (.cells Z 41)).drewN d = u at *
  go_wp2_with fail
  refine (HSD.out _).mono ?_
  rintro e w' ⟨rfl, rfl⟩
  have HC1 := Lib.hid (HC.out.below B.out (Nat.le_refl _))
  go_wp2_with fail
  refine (HBK.out _ HC1.out).mono ?_
  rintro e w2 ⟨r, rfl, o, k⟩
  obtain ⟨ad, cp, e0, _⟩ := o.came
  subst e0
  have hul : w.heap.size < u.heap.size := (Array.getElem?_eq_some_iff.1 G.out).1
  have G2 : Hid (w2.heap[w.heap.size]? = some (.cells Z 41 (0, 0))) := Lib.hid (by rw [k.block _ hul]; exact G.out)
  have B2 : Hid (Below w.heap.size w w2) := Lib.hid (B.out.trans (k.mono B.out.size))
  clear o k G B HC1
  go_wp2_with (refine wpList_store_row rfl 41 (.tmp 4) (.tmp 35) rfl w.heap.size Z rfl rfl 41 Z G2.out HI.out rfl H1.out ?_)
  refine bodyPost_ret (v := .tuple #[.agg Z, .int .i64 3]) (results_row_tmp (fn := Tryd.f24) (p := 4) (u := 5) (ty := 41) rfl _ _ w.heap.size 41 Z (0, 0) _ rfl (setRow_heap _ _ _ _ _ _ G2.out) Tryd.underlying41 rfl HI.out) rfl ⟨rfl, ?_⟩
  exact below_setRow B2.out (Nat.le_refl _) _

set_option maxRecDepth 100000 in
set_option maxHeartbeats 1600000 in
theorem specPc_yes (s : Nat) (A : List Nat) (h : A.all fin = true) (hs : side (s : Int) = true) (hl : A.length = s * s) (ho : okRnd A (lg A.length) = true) : PicC 24 s A (pcS s A) (pcZ s A) (pcC s A) := by
  intro hA v w hO
  obtain ⟨a, cap, rfl, hC⟩ := hO.came
  have hk : psOk s A = true := by
    unfold psOk
    rw [hs, Bool.true_and, ← Int.natCast_mul, hl]
    simp
  have hlen : lenI (A.length : Int) = true := by
    rw [hl]
    rcases side_yes _ hs with e | e | e | e
    · obtain rfl : s = 1 := by omega
      rfl
    · obtain rfl : s = 2 := by omega
      rfl
    · obtain rfl : s = 4 := by omega
      rfl
    · obtain rfl : s = 8 := by omega
      rfl
  have h3 := sb_yes h hlen ho
  have hc : pcC s A = 0 := by unfold pcC; rw [if_neg (by rw [h]; decide), if_neg (by rw [hk]; decide)]; exact h3.1
  have HAN : Hid (pcS s A = s ∧ pcZ s A = gl (pcF A) A.length) := Lib.hid ⟨by unfold pcS; rw [if_pos hc], by unfold pcZ; rw [if_pos hc]⟩
  rw [HAN.out.1, HAN.out.2, hc]
  have HBK : Hid (∀ u, CameF a A.length A u → Calls Tryd.prog 49 #[.slice a A.length cap] u fun e w' => ∃ r, e = .returned (.tuple #[r, .int .i64 0]) ∧ OwnF u.heap.size r (bkList A) w' ∧ Below u.heap.size u w') := Lib.hid (fun u hu => by
    have := l10Back_any a A.length cap A u hu hlen h
    rw [h3.1] at this
    exact this)
  have hbl : (bkList A).length = A.length := by rw [h3.2.2, List.length_map, rnds_len]
  have HBN : Hid (∀ i, i < A.length → NotNan ((bkList A).getD i 0)) := Lib.hid (fun i hi => by
    have hm : i < (rnds A (lg A.length)).length := by rw [rnds_len]; exact hi
    have e : (bkList A).getD i 0 = divS ((rnds A (lg A.length)).getD i 0) (fl32 A.length) := by
      rw [h3.2.2, List.getD_eq_getElem?_getD, List.getElem?_map, List.getElem?_eq_getElem hm, List.getD_eq_getElem?_getD, List.getElem?_eq_getElem hm]
      rfl
    rw [e]
    obtain ⟨r, hr, hn⟩ := div_num ((rnds A (lg A.length)).getD i 0) (fl32 A.length) (notnan_fin _ (all_at (okRnd_last ho) i hm)) (fl32_any hlen).1 (fl32_any hlen).2
    unfold divS
    rw [hr]
    exact hn)
  have HPF : Hid (∀ i, pcF A i = mx2 ((bkList A).getD i 0) 0) := Lib.hid (fun i => rfl)
  have HF : Hid (∀ u, CameF a A.length A u → Calls Tryd.prog 46 #[.slice a A.length cap] u fun e w' => e = .returned (.bool true) ∧ ∃ d, w' = u.drewN d) := Lib.hid (fun u hu => by rw [← h]; exact l10Fine_any a A.length cap A u hu hA)
  have HC := Lib.hid hC
  have hz37 := (zero_of_info info32).1
  have HI : Hid ((Tryd.prog.info? 41).map (·.size) = some (pic 0 zero64).size) := Lib.hid (by rw [pic_size 0 zero64 (by simp [zero64])]; exact (zero_of_info info32).2)
  have H1 : Hid ((pic 0 zero64).all (·.oneCell') = true) := Lib.hid (by rw [← gl_zero (fun _ => 0)]; exact gl_one _ _ _)
  have hne : ¬ pic 0 zero64 = #[] := fun e => by
    have := congrArg Array.size e
    rw [pic_size 0 zero64 (by simp [zero64])] at this
    simp at this
  have hss := sq_le2 s hs
  have hsq : (s : Int) * s = ((s * s : Nat) : Int) := by rw [Int.natCast_mul]
  have e5 : IntKind.i64.wrap ((s : Int) * s) = ((s * s : Nat) : Int) := (IntWalk.i64_in _ (by omega)).trans hsq
  have HSD : Hid (∀ z, Calls Tryd.prog 51 #[.int .i64 (s : Int)] z fun e w' => e = .returned (.bool true) ∧ z = w') := Lib.hid (fun z => by rw [← hs]; exact l01Side_any _ z)
  have hnn : ((A.length : Int) != ((s * s : Nat) : Int)) = false := by simp; omega
  have HS65 := Lib.hid (zero_of_info info32).2
  have HZ65 : Hid ((pic 0 zero64).size = 65) := Lib.hid (pic_size 0 zero64 (by simp [zero64]))
  have HB0 := Lib.hid (pic_set0 0 (s : Int) zero64)
  have hN64 : A.length ≤ 64 := by omega
  rw [hl] at hbl HBN HF HC HBK hnn hN64 ⊢
  generalize pcF A = F at *
  generalize bkList A = K at *
  have HBL := Lib.hid hbl
  obtain ⟨E, hE⟩ : ∃ E, E = pic (s : Int) zero64 := ⟨_, rfl⟩
  rw [← hE] at HB0
  have HEE := Lib.hid hE
  have HEI : Hid ((Tryd.prog.info? 41).map (·.size) = some E.size) := Lib.hid (by rw [hE, pic_size _ _ (by simp [zero64])]; exact HS65.out)
  have HZE : Hid ((pic 0 zero64).size = E.size) := Lib.hid (by rw [hE, pic_size _ _ (by simp [zero64]), pic_size _ _ (by simp [zero64])])
  have HE1 : Hid (E.all (·.oneCell') = true) := Lib.hid (by rw [hE, ← gl_zero (fun _ => 0)]; exact gl_one _ _ _)
  generalize pic 0 zero64 = Z at *
  clear h hO hC hA hc hk hs hsq hss h3 hlen ho hl hbl hE HAN
  generalize s * s = N at *
  go_enter Tryd.func24, Tryd.ntmps24
  go_wp2_with fail
  refine (HF.out _ (HC.out.below ((Below.refl _ _).alloc (Nat.le_refl _) _) (Nat.le_refl _))).mono ?_
  rintro e w1 ⟨rfl, d, rfl⟩
  have G : Hid (((w.alloc (.cells Z 41)).drewN d).heap[w.heap.size]? = some (.cells Z 41 (0, 0))) := Lib.hid (h1_0 _ _)
  have B : Hid (Below w.heap.size w ((w.alloc (.cells Z 41)).drewN d)) := Lib.hid (below_drewN ((Below.refl _ _).alloc (Nat.le_refl _) _) d)
  generalize (w.alloc (.cells Z 41)).drewN d = u at *
  go_wp2_with fail
  refine (HSD.out _).mono ?_
  rintro e w' ⟨rfl, rfl⟩
  have HC1 := Lib.hid (HC.out.below B.out (Nat.le_refl _))
  go_wp2_with fail
  refine (HBK.out _ HC1.out).mono ?_
  rintro e w2 ⟨r, rfl, o, k⟩
  obtain ⟨ad, cp, e0, oc⟩ := o.came
  subst e0
  have hul : w.heap.size < u.heap.size := (Array.getElem?_eq_some_iff.1 G.out).1
  have G2 : Hid (w2.heap[w.heap.size]? = some (.cells Z 41 (0, 0))) := Lib.hid (by rw [k.block _ hul]; exact G.out)
  have hul2 : w.heap.size < w2.heap.size := by have := k.size; omega
  have B2 : Hid (Below w.heap.size w w2) := Lib.hid (B.out.trans (k.mono B.out.size))
  have OC := Lib.hid oc
  rw [HBL.out] at OC ⊢
  clear o k G B HC1 oc hul
  have GG : Hid (((w2.alloc (.cells Z 41)).setRow w2.heap.size E).heap[w2.heap.size]? = some (.cells E 41 (0, 0))) := Lib.hid (setRow_heap _ _ _ _ _ _ (h1_0 _ _))
  have GZ : Hid (((w2.alloc (.cells Z 41)).setRow w2.heap.size E).heap[w.heap.size]? = some (.cells Z 41 (0, 0))) := Lib.hid (by rw [setRow_other _ _ _ _ (by omega), heap_alloc_old _ _ hul2]; exact G2.out)
  have BX : Below w2.heap.size w2 ((w2.alloc (.cells Z 41)).setRow w2.heap.size E) := below_setRow ((Below.refl _ _).alloc (Nat.le_refl _) _) (Nat.le_refl _) _
  have BB : Hid (Below w.heap.size w ((w2.alloc (.cells Z 41)).setRow w2.heap.size E)) := Lib.hid (B2.out.trans (BX.mono B2.out.size))
  have BX1 := Lib.hid BX
  have HGW : Hid (w.heap.size < w2.heap.size) := Lib.hid hul2
  have HSE : Hid (Z.setIfInBounds 0 (.int .i64 (s : Int)) = E) := HB0
  go_wp2_with (first | fail | (rw [HSE.out]; refine wpList_store_row rfl 41 (.tmp 8) (.tmp 38) rfl w2.heap.size E rfl rfl 41 Z (h1_0 _ _) HEI.out HZE.out HE1.out ?_))
  generalize (w2.alloc (.cells Z 41)).setRow w2.heap.size E = V at *
  clear BX G2 B2 hz37 hne hul2
  go_loopw [9] (fun i wr => ∃ (q : Nat) (C : Array Value), q ≤ N ∧ i = .int .i64 q ∧ Hid (C = pic s (gl F q)) ∧ Hid (wr.heap[w2.heap.size]? = some (.cells C 41 (0, 0))) ∧ Hid (wr.heap[w.heap.size]? = some (.cells Z 41 (0, 0))) ∧ Hid (Below w.heap.size w wr) ∧ Hid (Below w2.heap.size w2 wr)) (fun i _ => N - (intOf i).toNat)
  case atStart => exact ⟨0, E, by omega, rfl, Lib.hid (by rw [HEE.out, gl_zero]), GG, GZ, BB, BX1⟩
  case round =>
    clear GG GZ BB BX1
    obtain ⟨q, C, hq, rfl, HCC, G, Z0, B, BX⟩ := hrel
    by_cases hlt : q < N
    · have hdy : decide ((q : Int) < (N : Int)) = true := by simp; omega
      obtain ⟨b, off, rfl, hb, hc⟩ := OC.out.2 (by omega)
      have c1 := (BX.out.cell (p := ⟨b, off + q, none⟩) hb).trans (hc q hlt)
      have hq64 : q < 64 := by omega
      have hold : wr.cell? ⟨w2.heap.size, 1 + q, none⟩ = some (.float .f32 0) := by
        rw [cell_of_row _ _ _ _ _ _ G.out, HCC.out]; exact gl_old s F q hq64
      have hfree : wr.frozen? ⟨w2.heap.size, 1 + q, none⟩ = false := frozen_of_row _ _ _ _ _ G.out
      have HSET : Hid (C.setIfInBounds (1 + q) (.float .f32 (F q)) = pic s (gl F (q + 1))) := Lib.hid (by
        rw [← gl_set s F q hq64, HCC.out])
      have hmax := fun ts t w => run_max0 (K.getD q 0) (HBN.out q hlt) ts t w
      rw [← HPF.out q] at hmax
      clear hb hc
      generalize F q = x at *
      generalize K.getD q 0 = y at *
      go_wp2_with fail
      exact ⟨⟨q + 1, C.setIfInBounds (1 + q) (.float .f32 x), by omega, by go_num, HSET, Lib.hid (heap_setCell_same _ _ _ _ _ _ G.out), Lib.hid (by rw [heap_setCell_other _ _ _ _ (by show w.heap.size ≠ w2.heap.size; have := HGW.out; omega)]; exact Z0.out), Lib.hid (B.out.setCell (p := ⟨w2.heap.size, 1 + q, none⟩) (by show w.heap.size ≤ w2.heap.size; have := HGW.out; omega) _), Lib.hid (BX.out.setCell (p := ⟨w2.heap.size, 1 + q, none⟩) (Nat.le_refl _) _)⟩, by simp [intOf]; omega⟩
    · obtain rfl : q = N := by omega
      have HC1 : Hid (C.all (·.oneCell') = true) := Lib.hid (by rw [HCC.out]; exact gl_one _ _ _)
      have HCI : Hid ((Tryd.prog.info? 41).map (·.size) = some C.size) := Lib.hid (by rw [HCC.out, pic_size _ _ (gl_size _ _)]; exact HS65.out)
      have HZC : Hid (Z.size = C.size) := Lib.hid (by rw [HCC.out, pic_size _ _ (gl_size _ _)]; exact HZ65.out)
      go_wp2_with (first | (refine wpList_load_row rfl 41 (.tmp 8) rfl w2.heap.size rfl 41 C (0, 0) _ G.out Tryd.underlying41 rfl HCI.out ?_) | (refine wpList_store_row rfl 41 (.tmp 4) (.tmp 53) rfl w.heap.size C rfl rfl 41 Z Z0.out HCI.out HZC.out HC1.out ?_))
      refine bodyPost_ret (v := .tuple #[.agg C, .int .i64 0]) (results_row_tmp (fn := Tryd.f24) (p := 4) (u := 5) (ty := 41) rfl _ _ w.heap.size 41 C (0, 0) _ rfl (setRow_heap _ _ _ _ _ _ Z0.out) Tryd.underlying41 rfl HCI.out) rfl ⟨by rw [HCC.out], ?_⟩
      exact below_setRow B.out (Nat.le_refl _) _

theorem specPc (n : Int) (A : List Nat) : PicC 24 n A (pcS n A) (pcZ n A) (pcC n A) := by
  cases h : A.all fin
  · exact specPc_nan n A h
  · cases hs : side n
    · exact specPc_side n A h hs
    · obtain ⟨s, rfl⟩ : ∃ s : Nat, n = s := ⟨n.toNat, by rcases side_yes n hs with rfl | rfl | rfl | rfl <;> rfl⟩
      by_cases hl : A.length = s * s
      · cases ho : okRnd A (lg A.length)
        · exact specPc_lim s A h hs hl ho
        · exact specPc_yes s A h hs hl ho
      · exact specPc_len s A h hs hl

end Go.Proofs.YtclflnpbiiimiaaDoor
