/- The difference of two pictures, in the program and in the model. Condition: 64 floats each; the program's error holds the library's. -/
import Derived.Test.YtjmfffgddmnkmabDoorTw
import Derived.Test.YtjmfffgddmnkmabDoorQd
import Derived.Test.YtjmfffgddmnkmabDoorMx
import Derived.Test.YtjmfffgddmnkmabDoorDo
import Derived.Test.YtjmfffgddmnkmabDoorPicI
namespace Go.Proofs.YtjmfffgddmnkmabDoor
open Go Go.RowKit

/-- the sum of the first k absolute values; none where it is not finite -/
def dif (zs ys : Array Value) : Nat → Option Nat
  | 0 => some 0
  | k + 1 => match dif zs ys k with
    | none => none
    | some o => if fin ((Ieee.single.add o (magF ((Ieee.single.sub (bitsAt zs k) (bitsAt ys k)).getD 0))).getD 0) then some ((Ieee.single.add o (magF ((Ieee.single.sub (bitsAt zs k) (bitsAt ys k)).getD 0))).getD 0) else none
theorem dif_good (s u : Int) (zs ys : Array Value) (h : shown s zs = true) (h2 : shown u ys = true) : ∀ k, k ≤ 64 → ∀ o, dif zs ys k = some o → Good o ∧ ∀ j, j < k → ∃ p, dif zs ys j = some p := by
  intro k
  induction k with
  | zero => intro _ o ho; injection ho with e; subst e; exact ⟨good_zero, fun j hj => by omega⟩
  | succ k ih =>
    intro hk o ho
    unfold dif at ho
    cases hd : dif zs ys k with
    | none => rw [hd] at ho; cases ho
    | some p =>
      rw [hd] at ho
      obtain ⟨hg, hj⟩ := ih (by omega) p hd
      have hsub : ∃ y, Ieee.single.sub (bitsAt zs k) (bitsAt ys k) = some y ∧ NotNan y ∧ y < 4294967296 := by
        have f1 := (shown_level s zs h k (by omega)).1
        have f2 := (shown_level u ys h2 k (by omega)).1
        obtain ⟨y, e1, e2⟩ := sub_num _ _ f1 f2
        exact ⟨y, e1, e2, sub_lt32 _ _ _ f1 f2 e1⟩
      obtain ⟨y, e1, e2, e3⟩ := hsub
      obtain ⟨r, a1, a2, a3, a4⟩ := good_add p y hg e2 e3
      have e4 : (Ieee.single.add p (magF ((Ieee.single.sub (bitsAt zs k) (bitsAt ys k)).getD 0))).getD 0 = r := by rw [e1]; show (Ieee.single.add p (magF y)).getD 0 = r; rw [a1]; rfl
      simp only [e4] at ho
      cases hf : fin r
      · rw [hf] at ho; cases ho
      · rw [hf] at ho
        injection ho with e5
        subst e5
        refine ⟨a4 hf, fun j hj2 => ?_⟩
        by_cases h3 : j = k
        · subst h3; exact ⟨p, hd⟩
        · exact hj j (by omega)
theorem dif_step (s u : Int) (zs ys : Array Value) (h : shown s zs = true) (h2 : shown u ys = true) (k : Nat) (hk : k < 64) (o : Nat) (hd : dif zs ys k = some o) :
    ∃ y r, floatBits .sub .f32 (bitsAt zs k) (bitsAt ys k) = some y ∧ NotNan y ∧ floatBits .add .f32 o (magF y) = some r ∧ floatBits .add .f32 o (szF y) = some r ∧ (fin r = true → dif zs ys (k + 1) = some r) ∧ (fin r = false → dif zs ys (k + 1) = none) := by
  obtain ⟨hg, _⟩ := dif_good s u zs ys h h2 k (by omega) o hd
  have f1 := (shown_level s zs h k (by omega)).1
  have f2 := (shown_level u ys h2 k (by omega)).1
  obtain ⟨y, e1, e2⟩ := sub_num _ _ f1 f2
  have e3 := sub_lt32 _ _ _ f1 f2 e1
  obtain ⟨r, a1, a2, a3, a4⟩ := good_add o y hg e2 e3
  have e4 : (Ieee.single.add o (magF ((Ieee.single.sub (bitsAt zs k) (bitsAt ys k)).getD 0))).getD 0 = r := by rw [e1]; show (Ieee.single.add o (magF y)).getD 0 = r; rw [a1]; rfl
  refine ⟨y, r, e1, e2, a1, a2, fun hf => ?_, fun hf => ?_⟩
  · unfold dif; rw [hd]; simp only [e4]; rw [if_pos hf]
  · unfold dif; rw [hd]; simp only [e4]; rw [if_neg (by rw [hf]; decide)]
theorem dif_none (s u : Int) (zs ys : Array Value) (h : shown s zs = true) (h2 : shown u ys = true) (k n : Nat) (hk : k ≤ n) (hn : n ≤ 64) (hd : dif zs ys k = none) : dif zs ys n = none := by
  cases he : dif zs ys n with
  | none => rfl
  | some o =>
    obtain ⟨_, hj⟩ := dif_good s u zs ys h h2 n hn o he
    by_cases h3 : k = n
    · subst h3; rw [hd] at he; cases he
    · obtain ⟨p, hp⟩ := hj k (by omega)
      rw [hd] at hp; cases hp
def ansDf (s u : Int) (zs ys : Array Value) : Nat × Int := if codeTwo s u zs ys = 0 then (match dif zs ys (s * s).toNat with | some r => (r, 0) | none => (0, 3)) else (0, codeTwo s u zs ys)
theorem codeTwo_zero (s u : Int) (zs ys : Array Value) (h : codeTwo s u zs ys = 0) : shown s zs = true ∧ shown u ys = true ∧ s = u := by
  unfold codeTwo at h
  cases h1 : shown s zs <;> cases h2 : shown u ys <;> rw [h1, h2] at h
  all_goals first | (simp at h; done) | skip
  refine ⟨rfl, rfl, ?_⟩
  simpa using h
theorem ansDf_num (s u : Int) (zs ys : Array Value) : NotNan (ansDf s u zs ys).1 := by
  have h00 : NotNan 0 := notnan_fin 0 (by decide)
  unfold ansDf
  split
  · rename_i h
    obtain ⟨h1, h2, h3⟩ := codeTwo_zero s u zs ys h
    have hs := (shown_side s zs h1).1
    have h64 : (s * s).toNat ≤ 64 := by rcases side_yes s hs with rfl | rfl | rfl | rfl <;> decide
    split
    · rename_i r hr
      exact notnan_fin r (dif_good s u zs ys h1 h2 _ h64 r hr).1.1
    · exact h00
  · exact h00

set_option maxHeartbeats 400000 in
theorem size_any (x : Nat) (w : World) : Calls Tryd.prog 44 #[.float .f32 x] w fun e w' => e = .returned (.float .f32 (szF x)) ∧ w = w' := by
  cases h : ltz x
  · have HE : Hid (szF x = x) := Lib.hid (by unfold szF; rw [h]; rfl)
    have h' : (FloatKind.f32.format.order x 0 == some .lt) = false := h
    generalize szF x = z at *
    clear h
    go_enter Tryd.func44, Tryd.ntmps44
    go_wp2
    go_ret
    exact ⟨by rw [HE.out]; rfl, rfl⟩
  · have HE : Hid (szF x = Op.negFloat .f32 x) := Lib.hid (by unfold szF; rw [h]; rfl)
    have hg : ∀ w, (Op.unary .neg (.float .f32 x)).run Tryd.prog w = .ok (.float .f32 (Op.negFloat .f32 x)) w := fun w => rfl
    have h' : (FloatKind.f32.format.order x 0 == some .lt) = true := h
    generalize szF x = z at *
    clear h
    go_enter Tryd.func44, Tryd.ntmps44
    go_wp2
    go_ret
    exact ⟨by rw [HE.out]; rfl, rfl⟩
set_option maxHeartbeats 400000 in
theorem magnitude_any (x : Nat) (h : NotNan x) (w : World) : Calls Tryd.prog 68 #[.float .f32 x] w fun e w' => e = .returned (.float .f32 (magF x)) ∧ w = w' := by
  obtain ⟨c, h1, h2, h3⟩ := mag_steps x h
  have g1 := fun w => run_convert_float_float (P := Tryd.prog) w 30 39 .f32 .f64 x c (by rw [Tryd.underlying30]; rfl) Tryd.underlying39 h1
  have g2 := fun w => run_convert_float_float (P := Tryd.prog) w 39 30 .f64 .f32 (c % 9223372036854775808) (magF x) (by rw [Tryd.underlying39]; rfl) Tryd.underlying30 h3
  have HA := Lib.hid (abs_any c h2)
  clear h h1 h2 h3
  generalize magF x = m at *
  generalize c % 9223372036854775808 = d at *
  go_enter Tryd.func68, Tryd.ntmps68
  go_wp2_with (go_at_call 65; refine (HA.out _).mono ?_; rintro e w' ⟨rfl, rfl⟩)
  go_ret
  exact ⟨rfl, rfl⟩

set_option maxRecDepth 100000 in
set_option maxHeartbeats 2000000 in
theorem specDf_any (s u : Int) (zs ys : Array Value) (hz : Floats zs) (hy : Floats ys) (w : World) : Calls Tryd.prog 16 #[.agg (pic s zs), .agg (pic u ys)] w fun e w' => e = .returned (.tuple #[.float .f32 (ansDf s u zs ys).1, .int .i64 (ansDf s u zs ys).2]) ∧ Below w.heap.size w w' := by
  have HS := Lib.hid (size32 s zs hz)
  have HU := Lib.hid (size32 u ys hy)
  have HC := Lib.hid (l05Two_any s u zs ys hz hy)
  by_cases h0 : codeTwo s u zs ys = 0
  · obtain ⟨h1, h2, h3⟩ := codeTwo_zero s u zs ys h0
    subst h3
    obtain ⟨hs, t, rfl⟩ := shown_side s zs h1
    have e2 : ((t : Int) * (t : Int)).toNat = t * t := by rw [← Int.natCast_mul]; rfl
    have HA : Hid (∀ d, dif zs ys (t * t) = d → ansDf t t zs ys = match d with | some r => (r, 0) | none => (0, 3)) := Lib.hid fun d hd => by unfold ansDf; rw [if_pos h0, e2, hd]
    have hs8 : 1 ≤ t ∧ t ≤ 8 := by rcases side_nat t hs with rfl | rfl | rfl | rfl <;> omega
    have hss := sq_le t hs
    have hw0 : IntKind.i64.wrap ((t : Int) * (t : Int)) = ((t * t : Nat) : Int) := by rw [← Int.natCast_mul]; exact IntWalk.i64_in _ (by omega)
    have HST : Hid (∀ k, k < 64 → ∀ o, dif zs ys k = some o → ∃ y r, floatBits .sub .f32 (bitsAt zs k) (bitsAt ys k) = some y ∧ NotNan y ∧ floatBits .add .f32 o (magF y) = some r ∧ floatBits .add .f32 o (szF y) = some r ∧ (fin r = true → dif zs ys (k + 1) = some r) ∧ (fin r = false → dif zs ys (k + 1) = none)) := Lib.hid fun k hk o ho => dif_step t t zs ys h1 h2 k hk o ho
    have HNN : Hid (∀ k, k ≤ t * t → dif zs ys k = none → dif zs ys (t * t) = none) := Lib.hid fun k hk => dif_none t t zs ys h1 h2 k (t * t) hk hss
    have HLZ : Hid (∀ k, k < 64 → (pic t zs)[1 + k]? = some (.float .f32 (bitsAt zs k))) := Lib.hid fun k hk => by rw [Nat.add_comm, pic_succ]; exact (bitsAt_lt zs hz k hk).2
    have HLY : Hid (∀ k, k < 64 → (pic t ys)[1 + k]? = some (.float .f32 (bitsAt ys k))) := Lib.hid fun k hk => by rw [Nat.add_comm, pic_succ]; exact (bitsAt_lt ys hy k hk).2
    have hP0 := Lib.hid (pic_zero t zs)
    rw [h0] at HC
    generalize ansDf t t zs ys = AN at *
    generalize pic t zs = cs at *
    generalize pic t ys = ds at *
    generalize hN : t * t = N at *
    have HN := Lib.hid hN
    clear h0 h1 h2 hs hz hy e2 hN
    go_enter Tryd.func16, Tryd.ntmps16
    go_upto_region 1 with fail
    have P0 : Hid (((w.alloc (.cells cs 36 )).alloc (.cells ds 36 )).heap[w.heap.size]? = some (.cells cs 36 (0, 0))) := Lib.hid (h2_0 _ _ _)
    have Q0 : Hid (((w.alloc (.cells cs 36 )).alloc (.cells ds 36 )).heap[w.heap.size + 1]? = some (.cells ds 36 (0, 0))) := Lib.hid (h2_1 _ _ _)
    have B0 : Hid (Below w.heap.size w ((w.alloc (.cells cs 36 )).alloc (.cells ds 36 ))) := Lib.hid (below_al2 _ _ _)
    generalize (w.alloc (.cells cs 36 )).alloc (.cells ds 36 ) = v at *
    go_wp2_with (first | fail | (refine wpList_load_row rfl 36 (.tmp 2) rfl w.heap.size rfl 36 cs (0, 0) _ P0.out Tryd.underlying36 rfl HS.out ?_) | (refine wpList_load_row rfl 36 (.tmp 3) rfl (w.heap.size + 1) rfl 36 ds (0, 0) _ Q0.out Tryd.underlying36 rfl HU.out ?_))
    refine (HC.out _).mono ?_
    rintro e w1 ⟨rfl, b1⟩
    have P1 : Hid (w1.heap[w.heap.size]? = some (.cells cs 36 (0, 0))) := Lib.hid (by rw [b1.block _ (Array.getElem?_eq_some_iff.1 P0.out).1]; exact P0.out)
    have Q1 : Hid (w1.heap[w.heap.size + 1]? = some (.cells ds 36 (0, 0))) := Lib.hid (by rw [b1.block _ (Array.getElem?_eq_some_iff.1 Q0.out).1]; exact Q0.out)
    have B1 : Hid (Below w.heap.size w w1) := Lib.hid (B0.out.trans (b1.mono B0.out.size))
    clear b1 P0 Q0 B0 HC
    go_wp2
    go_loopw [7, 8] (fun o i wr => ∃ k d x : Nat, k ≤ N ∧ i = .int .i64 k ∧ o = .float .f32 x ∧ Hid (dif zs ys k = some x) ∧ wr = w1.drewN d) (fun _ i _ => N - (intOf i).toNat)
    case atStart => exact ⟨0, 0, 0, by omega, rfl, rfl, Lib.hid rfl, rfl⟩
    case round =>
      obtain ⟨k, d, x, hk, rfl, rfl, HX, rfl⟩ := hrel
      have hp0 : (w1.drewN d).cell? ⟨w.heap.size, 0, none⟩ = some (.int .i64 t) := by rw [World.cell?_drewN, cell_of_row _ _ _ _ _ _ P1.out]; exact hP0.out
      by_cases hlt : k < N
      · have hdk : decide ((k : Int) < (N : Int)) = true := by simp; omega
        have hk64 : (k : Int) < 64 := by omega
        have hk0 : (0 : Int) ≤ (k : Int) := by omega
        obtain ⟨y, r, f1, _, _, f3, f4, f5⟩ := HST.out k (by omega) x HX.out
        have hpk : (w1.drewN d).cell? ⟨w.heap.size, 1 + k, none⟩ = some (.float .f32 (bitsAt zs k)) := by rw [World.cell?_drewN, cell_of_row _ _ _ _ _ _ P1.out]; exact HLZ.out k (by omega)
        have hqk : (w1.drewN d).cell? ⟨w.heap.size + 1, 1 + k, none⟩ = some (.float .f32 (bitsAt ys k)) := by rw [World.cell?_drewN, cell_of_row _ _ _ _ _ _ Q1.out]; exact HLY.out k (by omega)
        have g1 := fun w => run_float_arith (P := Tryd.prog) w .sub 30 .f32 _ _ y f1
        have g2 := fun w => run_float_arith (P := Tryd.prog) w .add 30 .f32 _ _ r f3
        have HSZ := Lib.hid (size_any y)
        clear f1 f3 HX
        generalize bitsAt zs k = z1 at *
        generalize bitsAt ys k = y1 at *
        generalize szF y = sz at *
        generalize hvv : w1.drewN d = vv at *
        have HVV := Lib.hid hvv
        have BV : Hid (Below w.heap.size w vv) := Lib.hid (by rw [← hvv]; exact below_drewN B1.out _)
        clear hvv
        cases hf : fin r
        · have HD := Lib.hid (HA.out _ (HNN.out (k + 1) (by omega) (f5 hf)))
          clear f4 f5
          go_wp2_with fail
          go_quiet ((go_at_call 44; exact Calls.quiet_of_same ((HSZ.out _).mono fun _ _ h => ⟨h.1, h.2.symm⟩)))
          go_wp2_with (go_at_call 27; refine (fine_any _ _).mono ?_; rw [hf]; rintro e w' ⟨rfl, n', rfl⟩)
          go_ret2
          exact ⟨by rw [HD.out]; rfl, below_drewN BV.out _⟩
        · have HD := Lib.hid (f4 hf)
          clear f4 f5
          go_wp2_with fail
          go_quiet ((go_at_call 44; exact Calls.quiet_of_same ((HSZ.out _).mono fun _ _ h => ⟨h.1, h.2.symm⟩)))
          go_wp2_with (go_at_call 27; refine (fine_any _ _).mono ?_; rw [hf]; rintro e w' ⟨rfl, n', rfl⟩)
          exact ⟨⟨k + 1, d + (nq + n'), r, by omega, by go_num, rfl, HD, by rw [← HVV.out, World.drewN_drewN]⟩, by simp [intOf]; omega⟩
      · obtain rfl : k = N := by omega
        have HD := Lib.hid (HA.out _ HX.out)
        go_wp2
        go_ret2
        exact ⟨by rw [HD.out]; rfl, below_drewN B1.out _⟩
  · have HA : Hid (ansDf s u zs ys = (0, codeTwo s u zs ys)) := Lib.hid (by unfold ansDf; rw [if_neg h0])
    have hk : (codeTwo s u zs ys != 0) = true := by simpa using h0
    generalize ansDf s u zs ys = AN at *
    generalize codeTwo s u zs ys = K at *
    generalize pic s zs = cs at *
    generalize pic u ys = ds at *
    clear h0 hz hy
    go_enter Tryd.func16, Tryd.ntmps16
    go_upto_region 1 with fail
    have P0 : Hid (((w.alloc (.cells cs 36 )).alloc (.cells ds 36 )).heap[w.heap.size]? = some (.cells cs 36 (0, 0))) := Lib.hid (h2_0 _ _ _)
    have Q0 : Hid (((w.alloc (.cells cs 36 )).alloc (.cells ds 36 )).heap[w.heap.size + 1]? = some (.cells ds 36 (0, 0))) := Lib.hid (h2_1 _ _ _)
    have B0 : Hid (Below w.heap.size w ((w.alloc (.cells cs 36 )).alloc (.cells ds 36 ))) := Lib.hid (below_al2 _ _ _)
    generalize (w.alloc (.cells cs 36 )).alloc (.cells ds 36 ) = v at *
    go_wp2_with (first | fail | (refine wpList_load_row rfl 36 (.tmp 2) rfl w.heap.size rfl 36 cs (0, 0) _ P0.out Tryd.underlying36 rfl HS.out ?_) | (refine wpList_load_row rfl 36 (.tmp 3) rfl (w.heap.size + 1) rfl 36 ds (0, 0) _ Q0.out Tryd.underlying36 rfl HU.out ?_))
    refine (HC.out _).mono ?_
    rintro e w1 ⟨rfl, b1⟩
    have B1 : Hid (Below w.heap.size w w1) := Lib.hid (B0.out.trans (b1.mono B0.out.size))
    clear b1 P0 Q0 B0 HC
    go_wp2
    go_ret2
    exact ⟨by rw [HA.out]; rfl, B1.out⟩

/-- how the walk over all differences ends -/
def DfEnd (a : Addr) (d : Option Nat) (e : Ending) : Prop := match d with
  | some r => e = .returned (.float .f32 r)
  | none => e = .panicked [{ v := errV a, recovered := false }]

set_option maxRecDepth 100000 in
set_option maxHeartbeats 2000000 in
theorem addDf (t : Nat) (hs : side t = true) (zs ys : Array Value) (hz : Floats zs) (hy : Floats ys) (h1 : shown t zs = true) (h2 : shown t ys = true) (a : Addr) (w : World) (hE : Err a w) :
    Calls Tryd.prog 47 #[.float .f32 0, .agg (pic t zs), .agg (pic t ys)] w fun e w' => DfEnd a (dif zs ys (t * t)) e ∧ Below w.heap.size w w' := by
  have hs8 : 1 ≤ t ∧ t ≤ 8 := by rcases side_nat t hs with rfl | rfl | rfl | rfl <;> omega
  have hss := sq_le t hs
  have HST : Hid (∀ k, k < 64 → ∀ o, dif zs ys k = some o → ∃ y r, floatBits .sub .f32 (bitsAt zs k) (bitsAt ys k) = some y ∧ NotNan y ∧ floatBits .add .f32 o (magF y) = some r ∧ floatBits .add .f32 o (szF y) = some r ∧ (fin r = true → dif zs ys (k + 1) = some r) ∧ (fin r = false → dif zs ys (k + 1) = none)) := Lib.hid fun k hk o ho => dif_step t t zs ys h1 h2 k hk o ho
  have HNN : Hid (∀ k, k ≤ t * t → dif zs ys k = none → dif zs ys (t * t) = none) := Lib.hid fun k hk => dif_none t t zs ys h1 h2 k (t * t) hk hss
  have HLZ : Hid (∀ k, k < 64 → (pic t zs)[1 + k]? = some (.float .f32 (bitsAt zs k))) := Lib.hid fun k hk => by rw [Nat.add_comm, pic_succ]; exact (bitsAt_lt zs hz k hk).2
  have HLY : Hid (∀ k, k < 64 → (pic t ys)[1 + k]? = some (.float .f32 (bitsAt ys k))) := Lib.hid fun k hk => by rw [Nat.add_comm, pic_succ]; exact (bitsAt_lt ys hy k hk).2
  have HP0 := Lib.hid (pic_zero t zs)
  have HSD := Lib.hid hs
  have HE := Lib.hid hE
  have HEND : Hid (∀ d, dif zs ys (t * t) = d → ∀ e, DfEnd a d e → DfEnd a (dif zs ys (t * t)) e) := Lib.hid fun d hd e he => by rw [hd]; exact he
  generalize pic t zs = cs at *
  generalize pic t ys = ds at *
  have HV0 : Hid (∀ (b : Nat) (v : World), v.heap[b]? = some (.cells cs 36 (0, 0)) → Calls Tryd.prog 61 #[.pointer (some ⟨b, 0, none⟩)] v fun e w' => e = .returned (.slice (some ⟨b, 1, none⟩) (t * t) 64) ∧ ∃ d, w' = v.drewN d) := Lib.hid (fun b v hb => by
    have h := levels_any b t HSD.out v (by rw [cell_of_row _ _ _ _ _ _ hb]; exact HP0.out)
    exact h)
  generalize t * t = N at *
  clear hz hy h1 h2 hs hE
  go_enter Tryd.func47, Tryd.ntmps47
  go_upto_region 1 with fail
  have P0 : Hid (((w.alloc (.cells cs 36 )).alloc (.cells ds 36 )).heap[w.heap.size]? = some (.cells cs 36 (0, 0))) := Lib.hid (h2_0 _ _ _)
  have Q0 : Hid (((w.alloc (.cells cs 36 )).alloc (.cells ds 36 )).heap[w.heap.size + 1]? = some (.cells ds 36 (0, 0))) := Lib.hid (h2_1 _ _ _)
  have B0 : Hid (Below w.heap.size w ((w.alloc (.cells cs 36 )).alloc (.cells ds 36 ))) := Lib.hid (below_al2 _ _ _)
  have E0 : Hid (Err a ((w.alloc (.cells cs 36 )).alloc (.cells ds 36 ))) := Lib.hid (HE.out.cell B0.out)
  generalize (w.alloc (.cells cs 36 )).alloc (.cells ds 36 ) = v at *
  generalize hbe : w.heap.size = b at *
  have HBE := Lib.hid hbe
  clear hbe
  have HV := Lib.hid (HV0.out b v P0.out)
  have HCZ : Hid (∀ k, k < 64 → v.cell? ⟨b, 1 + k, none⟩ = some (.float .f32 (bitsAt zs k))) := Lib.hid fun k hk => by rw [cell_of_row _ _ _ _ _ _ P0.out]; exact HLZ.out k hk
  have HCY : Hid (∀ k, k < 64 → v.cell? ⟨b + 1, 1 + k, none⟩ = some (.float .f32 (bitsAt ys k))) := Lib.hid fun k hk => by rw [cell_of_row _ _ _ _ _ _ Q0.out]; exact HLY.out k hk
  clear HV0 P0 Q0 HLZ HLY
  go_wp2_with fail
  refine HV.out.mono ?_
  rintro e w1 ⟨rfl, d0, rfl⟩
  go_wp2_with fail
  go_loopw [0, 11] (fun o i wr => ∃ k d x : Nat, k ≤ N ∧ i = .int .i64 k ∧ o = .float .f32 x ∧ Hid (dif zs ys k = some x) ∧ wr = v.drewN d) (fun _ i _ => N - (intOf i).toNat)
  case atStart => exact ⟨0, d0, 0, by omega, rfl, rfl, Lib.hid rfl, rfl⟩
  case round =>
    obtain ⟨k, d, x, hk, rfl, rfl, HX, rfl⟩ := hrel
    by_cases hlt : k < N
    · have hdk : decide ((k : Int) < (N : Int)) = true := by simp; omega
      have hkN : (k : Int) < (N : Int) := by omega
      have hk64 : (k : Int) < 64 := by omega
      have hk0 : (0 : Int) ≤ (k : Int) := by omega
      obtain ⟨y, r, f1, fn, f2, _, f4, f5⟩ := HST.out k (by omega) x HX.out
      have hpk : (v.drewN d).cell? ⟨b, 1 + k, none⟩ = some (.float .f32 (bitsAt zs k)) := by rw [World.cell?_drewN]; exact HCZ.out k (by omega)
      have hqk : (v.drewN d).cell? ⟨b + 1, 1 + k, none⟩ = some (.float .f32 (bitsAt ys k)) := by rw [World.cell?_drewN]; exact HCY.out k (by omega)
      have g1 := fun w => run_float_arith (P := Tryd.prog) w .sub 30 .f32 _ _ y f1
      have g2 := fun w => run_float_arith (P := Tryd.prog) w .add 30 .f32 _ _ r f2
      have HSZ := Lib.hid (magnitude_any y fn)
      have EV : Hid (Err a (v.drewN d)) := Lib.hid (E0.out.cell (below_drewN (Below.refl _ _) _))
      clear f1 f2 HX
      generalize bitsAt zs k = z1 at *
      generalize bitsAt ys k = y1 at *
      generalize magF y = sz at *
      cases hf : fin r
      · have HD := Lib.hid (HEND.out _ (HNN.out (k + 1) (by omega) (f5 hf)))
        clear f4 f5
        go_wp2_with (go_at_call 68; refine (HSZ.out _).mono ?_; rintro e w' ⟨rfl, rfl⟩)
        refine (finNum_no r hf a _ EV.out).mono ?_
        rintro e w2 ⟨rfl, n, rfl⟩
        exact ⟨rfl, HD.out _ rfl, by rw [HBE.out]; exact below_drewN (below_drewN B0.out _) _⟩
      · have HD := Lib.hid (f4 hf)
        clear f4 f5
        go_wp2_with (go_at_call 68; refine (HSZ.out _).mono ?_; rintro e w' ⟨rfl, rfl⟩)
        refine (finNum_yes r hf _).mono ?_
        rintro e w2 ⟨rfl, n, rfl⟩
        go_wp2
        exact ⟨⟨k + 1, d + n, r, by omega, by go_num, rfl, HD, rfl⟩, by simp [intOf]; omega⟩
    · obtain rfl : k = N := by omega
      have HD := Lib.hid (HEND.out _ HX.out)
      go_wp2
      go_ret
      exact ⟨HD.out _ rfl, by rw [HBE.out]; exact below_drewN B0.out _⟩

set_option maxRecDepth 100000 in
set_option maxHeartbeats 2000000 in
theorem closDf (t : Nat) (hs : side t = true) (zs ys : Array Value) (hz : Floats zs) (hy : Floats ys) (h1 : shown t zs = true) (h2 : shown t ys = true) (b c : Nat) (a : Addr) (v : World) (hE : Err a v)
    (hb : v.heap[b]? = some (.cells (pic t zs) 36 (0, 0))) (hc : v.heap[c]? = some (.cells (pic t ys) 36 (0, 0))) :
    Calls Tryd.prog 46 #[.pointer (some ⟨b, 0, none⟩), .pointer (some ⟨c, 0, none⟩)] v fun e w' => DfEnd a (dif zs ys (t * t)) e ∧ Below v.heap.size v w' := by
  have HA := Lib.hid (addDf t hs zs ys hz hy h1 h2 a v hE)
  have HS := Lib.hid (size32 t zs hz)
  have HU := Lib.hid (size32 t ys hy)
  have HB := Lib.hid hb
  have HC := Lib.hid hc
  generalize pic t zs = cs at *
  generalize pic t ys = ds at *
  clear hb hc hz hy h1 h2 hs hE
  cases hd : dif zs ys (t * t) with
  | none =>
    rw [hd] at HA
    go_enter Tryd.func46, Tryd.ntmps46
    go_wp2_with (first | fail | (refine wpList_load_row rfl 36 (.tmp 0) rfl b rfl 36 cs (0, 0) _ HB.out Tryd.underlying36 rfl HS.out ?_) | (refine wpList_load_row rfl 36 (.tmp 1) rfl c rfl 36 ds (0, 0) _ HC.out Tryd.underlying36 rfl HU.out ?_) | (go_at_call 47; fail))
    refine HA.out.mono ?_
    rintro e w1 ⟨he, k1⟩
    obtain rfl : e = .panicked [{ v := errV a, recovered := false }] := he
    exact ⟨rfl, rfl, k1⟩
  | some r =>
    rw [hd] at HA
    go_enter Tryd.func46, Tryd.ntmps46
    go_wp2_with (first | fail | (refine wpList_load_row rfl 36 (.tmp 0) rfl b rfl 36 cs (0, 0) _ HB.out Tryd.underlying36 rfl HS.out ?_) | (refine wpList_load_row rfl 36 (.tmp 1) rfl c rfl 36 ds (0, 0) _ HC.out Tryd.underlying36 rfl HU.out ?_) | (go_at_call 47; fail))
    refine HA.out.mono ?_
    rintro e w1 ⟨he, k1⟩
    obtain rfl : e = .returned (.float .f32 r) := he
    have HK := Lib.hid k1
    clear k1
    go_wp2_with fail
    go_ret
    exact ⟨rfl, HK.out⟩

set_option maxRecDepth 100000 in
set_option maxHeartbeats 2000000 in
theorem implDf_any (s u : Int) (zs ys : Array Value) (hz : Floats zs) (hy : Floats ys) (a : Addr) (w : World) (hE : Err a w) : Calls Tryd.prog 17 #[.agg (pic s zs), .agg (pic u ys)] w fun e w' => e = .returned (.tuple #[.float .f32 (ansDf s u zs ys).1, .int .i64 (ansDf s u zs ys).2]) ∧ Below w.heap.size w w' := by
  have HS := Lib.hid (size32 s zs hz)
  have HU := Lib.hid (size32 u ys hy)
  have hc65 : (pic s zs).size = 65 := pic_size s zs hz.1
  have hd65 : (pic u ys).size = 65 := pic_size u ys hy.1
  have HC := Lib.hid (checkPictures_two s u zs ys hz hy)
  by_cases h0 : codeTwo s u zs ys = 0
  · obtain ⟨h1, h2, h3⟩ := codeTwo_zero s u zs ys h0
    subst h3
    obtain ⟨hs, t, rfl⟩ := shown_side s zs h1
    have e2 : ((t : Int) * (t : Int)).toNat = t * t := by rw [← Int.natCast_mul]; rfl
    have HA : Hid (∀ d, dif zs ys (t * t) = d → ansDf t t zs ys = match d with | some r => (r, 0) | none => (0, 3)) := Lib.hid fun d hd => by unfold ansDf; rw [if_pos h0, e2, hd]
    have HCL : Hid (∀ (b c : Nat) (v : World), Err a v → v.heap[b]? = some (.cells (pic t zs) 36 (0, 0)) → v.heap[c]? = some (.cells (pic t ys) 36 (0, 0)) → Calls Tryd.prog 46 #[.pointer (some ⟨b, 0, none⟩), .pointer (some ⟨c, 0, none⟩)] v fun e w' => DfEnd a (dif zs ys (t * t)) e ∧ Below v.heap.size v w') := Lib.hid fun b c v hv hb hc => closDf t hs zs ys hz hy h1 h2 b c a v hv hb hc
    rw [h0] at HC
    have HEE := Lib.hid hE
    generalize ansDf t t zs ys = AN at *
    generalize pic t zs = cs at *
    generalize pic t ys = ds at *
    have HC65 := Lib.hid hc65
    have HD65 := Lib.hid hd65
    clear h0 h1 h2 hs hz hy e2 hc65 hd65 hE
    go_enter Tryd.func17, Tryd.ntmps17
    go_upto_region 1 with fail
    have P0 : Hid (((w.alloc (.cells cs 36 )).alloc (.cells ds 36 )).heap[w.heap.size]? = some (.cells cs 36 (0, 0))) := Lib.hid (h2_0 _ _ _)
    have Q0 : Hid (((w.alloc (.cells cs 36 )).alloc (.cells ds 36 )).heap[w.heap.size + 1]? = some (.cells ds 36 (0, 0))) := Lib.hid (h2_1 _ _ _)
    have B0 : Hid (Below w.heap.size w ((w.alloc (.cells cs 36 )).alloc (.cells ds 36 ))) := Lib.hid (below_al2 _ _ _)
    generalize (w.alloc (.cells cs 36 )).alloc (.cells ds 36 ) = v at *
    go_wp2_with (first | fail | (refine wpList_load_row rfl 36 (.tmp 2) rfl w.heap.size rfl 36 cs (0, 0) _ P0.out Tryd.underlying36 rfl HS.out ?_) | (refine wpList_load_row rfl 36 (.tmp 3) rfl (w.heap.size + 1) rfl 36 ds (0, 0) _ Q0.out Tryd.underlying36 rfl HU.out ?_) | (refine wpList_twoP rfl 7 8 rfl cs ds rfl rfl HC65.out HD65.out ?_) | (go_at_call 45; fail))
    refine (HC.out v.heap.size _ (h1_0 _ _)).mono ?_
    rintro e w1 ⟨rfl, b1⟩
    have P1 : Hid (w1.heap[w.heap.size]? = some (.cells cs 36 (0, 0))) := Lib.hid (by
      have hl := (Array.getElem?_eq_some_iff.1 P0.out).1
      rw [b1.block _ (by rw [size_al]; omega), heap_alloc_old _ _ hl]; exact P0.out)
    have Q1 : Hid (w1.heap[w.heap.size + 1]? = some (.cells ds 36 (0, 0))) := Lib.hid (by
      have hl := (Array.getElem?_eq_some_iff.1 Q0.out).1
      rw [b1.block _ (by rw [size_al]; omega), heap_alloc_old _ _ hl]; exact Q0.out)
    have B1 : Hid (Below w.heap.size w w1) := Lib.hid ((B0.out.alloc B0.out.size _).trans (b1.mono (by rw [size_al]; have := B0.out.size; omega)))
    clear b1 P0 Q0 B0 HC
    have E1 := Lib.hid (HEE.out.cell B1.out)
    have HW : Hid (∀ x, Below w1.heap.size w1 x → Calls Tryd.prog 46 #[.pointer (some ⟨w.heap.size, 0, none⟩), .pointer (some ⟨w.heap.size + 1, 0, none⟩)] x fun e w' => DfEnd a (dif zs ys (t * t)) e ∧ Below x.heap.size x w') := Lib.hid fun x hx => HCL.out _ _ x (E1.out.cell hx) (by rw [hx.block _ (Array.getElem?_eq_some_iff.1 P1.out).1]; exact P1.out) (by rw [hx.block _ (Array.getElem?_eq_some_iff.1 Q1.out).1]; exact Q1.out)
    clear HCL
    cases hd : dif zs ys (t * t) with
    | none =>
      have HD := Lib.hid (HA.out _ hd)
      have HDO := Lib.hid (doorF_no 46 (.pointer (some ⟨w.heap.size, 0, none⟩)) (.pointer (some ⟨w.heap.size + 1, 0, none⟩)) a w1 E1.out (fun v => by simp [go_sem]) (Lib.hid fun x hx => (HW.out x hx).mono fun e w' h => ⟨by have := h.1; rw [hd] at this; exact this, h.2⟩))
      clear hd HW HA
      go_wp2_with (go_at_call 32; fail)
      refine HDO.out.mono ?_
      rintro e w3 ⟨rfl, b3⟩
      have B5 : Hid (Below w.heap.size w w3) := Lib.hid (B1.out.trans (b3.mono B1.out.size))
      clear b3
      go_wp2
      go_ret2
      exact ⟨by rw [HD.out]; rfl, B5.out⟩
    | some r =>
      have HD := Lib.hid (HA.out _ hd)
      have HDO := Lib.hid (doorF_yes 46 (.pointer (some ⟨w.heap.size, 0, none⟩)) (.pointer (some ⟨w.heap.size + 1, 0, none⟩)) r w1 (fun v => by simp [go_sem]) (Lib.hid fun x hx => (HW.out x hx).mono fun e w' h => ⟨by have := h.1; rw [hd] at this; exact this, h.2⟩))
      clear hd HW HA
      go_wp2_with (go_at_call 32; fail)
      refine HDO.out.mono ?_
      rintro e w3 ⟨rfl, b3⟩
      have B5 : Hid (Below w.heap.size w w3) := Lib.hid (B1.out.trans (b3.mono B1.out.size))
      clear b3
      go_wp2
      go_ret2
      exact ⟨by rw [HD.out]; rfl, B5.out⟩
  · have HA : Hid (ansDf s u zs ys = (0, codeTwo s u zs ys)) := Lib.hid (by unfold ansDf; rw [if_neg h0])
    have hk : (codeTwo s u zs ys != 0) = true := by simpa using h0
    generalize ansDf s u zs ys = AN at *
    generalize codeTwo s u zs ys = K at *
    generalize pic s zs = cs at *
    generalize pic u ys = ds at *
    have HC65 := Lib.hid hc65
    have HD65 := Lib.hid hd65
    clear h0 hz hy hc65 hd65 hE
    go_enter Tryd.func17, Tryd.ntmps17
    go_upto_region 1 with fail
    have P0 : Hid (((w.alloc (.cells cs 36 )).alloc (.cells ds 36 )).heap[w.heap.size]? = some (.cells cs 36 (0, 0))) := Lib.hid (h2_0 _ _ _)
    have Q0 : Hid (((w.alloc (.cells cs 36 )).alloc (.cells ds 36 )).heap[w.heap.size + 1]? = some (.cells ds 36 (0, 0))) := Lib.hid (h2_1 _ _ _)
    have B0 : Hid (Below w.heap.size w ((w.alloc (.cells cs 36 )).alloc (.cells ds 36 ))) := Lib.hid (below_al2 _ _ _)
    generalize (w.alloc (.cells cs 36 )).alloc (.cells ds 36 ) = v at *
    go_wp2_with (first | fail | (refine wpList_load_row rfl 36 (.tmp 2) rfl w.heap.size rfl 36 cs (0, 0) _ P0.out Tryd.underlying36 rfl HS.out ?_) | (refine wpList_load_row rfl 36 (.tmp 3) rfl (w.heap.size + 1) rfl 36 ds (0, 0) _ Q0.out Tryd.underlying36 rfl HU.out ?_) | (refine wpList_twoP rfl 7 8 rfl cs ds rfl rfl HC65.out HD65.out ?_) | (go_at_call 45; fail))
    refine (HC.out v.heap.size _ (h1_0 _ _)).mono ?_
    rintro e w1 ⟨rfl, b1⟩
    have B1 : Hid (Below w.heap.size w w1) := Lib.hid ((B0.out.alloc B0.out.size _).trans (b1.mono (by rw [size_al]; have := B0.out.size; omega)))
    clear b1 P0 Q0 B0 HC
    go_wp2
    go_ret2
    exact ⟨by rw [HA.out]; rfl, B1.out⟩
end Go.Proofs.YtjmfffgddmnkmabDoor
