/- The law of masks: unions, intersections, complements, open cells and what is behind a mask are as told, and their counts and sums agree. Condition: a code that can be read. -/
import Derived.Test.YtjmfffgddmnkmabMf
import Derived.Test.YtjmfffgddmnkmabLk
import Derived.Test.YtjmfffgddmnkmabD5
import Derived.Maps.RangeWalk
import Derived.Deep.CutBlock
import Derived.Deep.DeepCutAuto
import Derived.Deep.RegionHeld3
namespace Go.Proofs.Ytjmfffgddmnkmab
open Go Go.RowKit

section
variable {o : Oper} {a : Act} {w : World}
theorem ex_move (x : Operand) (v : Value) (ho : o.op = .move x) (hx : a.eval x = v) : (execOp a.eval o).run Try.prog w = .ok (.value v) w := by
  unfold execOp; simp only [ho, hx, Sem.run_pure]
theorem ex_neqInt (t t' : TypeId) (x y : Operand) (k : IntKind) (c d : Int) (ho : o.op = .binOp .neq t x y t') (hx : a.eval x = .int k c) (hy : a.eval y = .int k d) (hcd : c = d) : (execOp a.eval o).run Try.prog w = .ok (.value (.bool false)) w := by
  subst hcd
  unfold execOp
  simp only [ho, hx, hy, eqGuard_at_int, Sem.run_bind, Sem.run_pure, Result.andThen_ok]
  simp [binOp, Op.intCmp]
theorem ex_neqBool (x y : Operand) (q : Bool) (ho : o.op = .binOp .neq 4 x y 4) (hx : a.eval x = .bool q) (hy : a.eval y = .bool q) : (execOp a.eval o).run Try.prog w = .ok (.value (.bool false)) w := by
  have hg : (eqGuard .neq 4 x y (.bool q) (.bool q)).run Try.prog w = .ok () w := by cases q <;> kernel_rfl
  have hb : (binOp .neq 4 (.bool q) (.bool q)).run Try.prog w = .ok (.bool false) w := by cases q <;> kernel_rfl
  unfold execOp
  simp only [ho, hx, hy, Sem.run_bind, hg, hb, Result.andThen_ok, Sem.run_pure]
theorem ex_neqW (x y : Operand) (F G : Array Value) (ho : o.op = .binOp .neq 30 x y 30) (hx : a.eval x = .agg F) (hy : a.eval y = .agg G) (hne : ∀ w, (binOp .neq 30 (.agg F) (.agg G)).run Try.prog w = .ok (.bool false) w) : (execOp a.eval o).run Try.prog w = .ok (.value (.bool false)) w := by
  have hg : (eqGuard .neq 30 x y (.agg F) (.agg G)).run Try.prog w = .ok () w := by kernel_rfl
  unfold execOp
  simp only [ho, hx, hy, Sem.run_bind, hg, hne, Result.andThen_ok, Sem.run_pure]
theorem ex_pick (c x y : Operand) (v : Value) (ho : o.op = .pick c x y) (hc : a.eval c = .bool false) (hy : a.eval y = v) : (execOp a.eval o).run Try.prog w = .ok (.value v) w := by
  unfold execOp; simp [ho, hc, hy, asBool]
theorem ex_load (x : Operand) (b : Nat) (D : Array Value) (ho : o.op = .load 30 x) (hx : a.eval x = .pointer (some ⟨b, 0, none⟩)) (hb : w.heap[b]? = some (.cells D 30 (0, 0))) (hD : (Try.prog.info? 30).map (·.size) = some D.size) : (execOp a.eval o).run Try.prog w = .ok (.value (.agg D)) w := by
  unfold execOp
  simp only [ho, hx, Instr.loadAt, Instr.sureAddr, Sem.run_bind, Sem.run_pure, Result.andThen_ok, run_loadVar_row w b 30 30 D (0, 0) _ hb Try.underlying30 rfl hD]
theorem ex_add (x y : Operand) (p q : Int) (ho : o.op = .binOp .add 2 x y 2) (hx : a.eval x = .int .i64 p) (hy : a.eval y = .int .i64 q) (hw : IntKind.i64.wrap (p + q) = p + q) : (execOp a.eval o).run Try.prog w = .ok (.value (.int .i64 (p + q))) w := by
  have hb : (binOp .add 2 (.int .i64 p) (.int .i64 q)).run Try.prog w = .ok (.int .i64 (p + q)) w := by
    have : (binOp .add 2 (.int .i64 p) (.int .i64 q)).run Try.prog w = .ok (.int .i64 (IntKind.i64.wrap (p + q))) w := by kernel_rfl
    rw [this, hw]
  unfold execOp
  simp only [ho, hx, hy, eqGuard_at_int, Sem.run_bind, hb, Result.andThen_ok, Sem.run_pure]
theorem ex_mul (x y : Operand) (p q : Int) (ho : o.op = .binOp .mul 2 x y 2) (hx : a.eval x = .int .i64 p) (hy : a.eval y = .int .i64 q) (hw : IntKind.i64.wrap (p * q) = p * q) : (execOp a.eval o).run Try.prog w = .ok (.value (.int .i64 (p * q))) w := by
  have hb : (binOp .mul 2 (.int .i64 p) (.int .i64 q)).run Try.prog w = .ok (.int .i64 (p * q)) w := by
    have : (binOp .mul 2 (.int .i64 p) (.int .i64 q)).run Try.prog w = .ok (.int .i64 (IntKind.i64.wrap (p * q))) w := by kernel_rfl
    rw [this, hw]
  unfold execOp
  simp only [ho, hx, hy, eqGuard_at_int, Sem.run_bind, hb, Result.andThen_ok, Sem.run_pure]
theorem wan_no {ops : Array Oper} (hg : o.guard = none) : Region.wanted o (yielded ops a.tmps) = true := by unfold Region.wanted; rw [hg]
theorem wan_of {ops : Array Oper} {j : Nat} {b : Bool} {d : Tmp} (hg : o.guard = some (j, b)) (hp : (ops[j]?).bind (·.dst) = some d) (hd : a.tmps[d]? = some (.bool b)) : Region.wanted o (yielded ops a.tmps) = true := by
  unfold Region.wanted yielded
  rw [hg]
  simp only [hp, Option.bind_some, hd]
  simp
end

theorem setRow_al20 (w : World) (Z cs : Array Value) (t : TypeId) (B : Obj) : ((w.alloc (.cells Z t)).alloc B).setRow w.heap.size cs = (w.alloc (.cells cs t)).alloc B := by
  have h := World.setRow_alloc_new w Z cs t
  have h1 : ((w.alloc (.cells Z t)).alloc B).setRow w.heap.size cs = ((w.alloc (.cells Z t)).setRow w.heap.size cs).alloc B := by
    unfold World.setRow
    simp only [World.alloc]
    congr 1
    apply Array.ext_getElem?
    intro i
    by_cases hi : w.heap.size = i
    · subst hi
      simp [Array.getElem?_push, Array.getElem?_modify, Array.getElem_modify]
    · simp [Array.getElem?_push, Array.getElem?_modify, hi]
  rw [h1, h]
theorem Lay.base {L : List (Nat × Array Value)} {w v a : World} (b : Below w.heap.size w v) (h : Lay L v a) : Lay L w a := ⟨h.1, b.trans (h.2.mono b.size)⟩

/-- a list of numbers lies at a place -/
def RowI (b n : Nat) (f : Nat → Int) (v : World) : Prop := b < v.heap.size ∧ ∀ i, i < n → v.cell? ⟨b, 0 + i, none⟩ = some (.int .i64 (f i))
theorem RowI.below {b n : Nat} {f : Nat → Int} {v u : World} (h : RowI b n f v) (k : Below v.heap.size v u) : RowI b n f u :=
  ⟨Nat.lt_of_lt_of_le h.1 k.size, fun i hi => by rw [World.cell?_of_block (w := v) (k.block b h.1)]; exact h.2 i hi⟩
theorem RowI.alloc {b n : Nat} {f : Nat → Int} {v : World} (h : RowI b n f v) (o : Obj) : RowI b n f (v.alloc o) :=
  h.below ((Below.refl _ _).alloc (Nat.le_refl _) o)
theorem RowI.drew {b n : Nat} {f : Nat → Int} {v : World} (h : RowI b n f v) : RowI b n f v.drew := h.below (below_drewN (Below.refl _ _) 1)
/-- the program counts the open cells -/
def Opens (n : Nat) (F : Array Value) : Prop := ∀ w, Calls Try.prog 21 #[.agg F] w fun e w' => ∃ b, e = .returned (.tuple #[.slice (some ⟨b, 0, none⟩) n n, .int .i64 0]) ∧ Below w.heap.size w w' ∧ RowI b n (cnts n F) w'
theorem rowI_of (n : Nat) (hs : side n = true) (F : Array Value) (b : Nat) (v : World) (h : ∀ i, i < n → v.cell? ⟨b, 0 + i, none⟩ = some (.int .i64 (cnt F (n * i) n : Nat))) : RowI b n (cnts n F) v :=
  ⟨World.block_lt_of_cell? v ⟨b, 0 + 0, none⟩ (h 0 (by rcases side_nat n hs with rfl | rfl | rfl | rfl <;> omega)), h⟩
theorem opens_of (n : Nat) (hs : side n = true) (F : Array Value) (hF : Wav n F) (h1 : isMsk n F = true) : Opens n F := fun w =>
  (implOpen_yes n hs F hF h1 w).mono fun _ w' ⟨b, h, k, r⟩ => ⟨b, h, k, rowI_of n hs F b w' r⟩
theorem specOpens (n : Nat) (hs : side n = true) (F : Array Value) (hF : Wav n F) (h1 : isMsk n F = true) (w : World) : Calls Try.prog 31 #[.agg F] w fun e w' => ∃ b, e = .returned (.tuple #[.slice (some ⟨b, 0, none⟩) n n, .int .i64 0]) ∧ Below w.heap.size w w' ∧ RowI b n (cnts n F) w' :=
  (specOpen_yes n hs F hF h1 w).mono fun _ w' ⟨b, h, k, r⟩ => ⟨b, h, k, rowI_of n hs F b w' r⟩
theorem sumRow (b n : Nat) (hs : side n = true) (F : Array Value) (v : World) (h : RowI b n (cnts n F) v) : Calls Try.prog 23 #[.slice (some ⟨b, 0, none⟩) n n] v fun e w' => e = .returned (.int .i64 (tot (cnts n F) n)) ∧ w' = v :=
  sum_any b 0 n n (cnts n F) (by rcases side_nat n hs with rfl | rfl | rfl | rfl <;> omega) (fun i _ => cnts_small n hs F i) v h.2
theorem tot_in (n : Nat) (hs : side n = true) (F : Array Value) : 0 ≤ tot (cnts n F) n ∧ tot (cnts n F) n ≤ 512 := by
  have h := tot_small (cnts n F) n (fun i _ => cnts_small n hs F i)
  have : n ≤ 8 := by rcases side_nat n hs with rfl | rfl | rfl | rfl <;> omega
  omega

/-- what is known where two masks are of one side -/
def OneSide (s t : Int) (D E A I : Array Value) : Prop := ∃ n : Nat, side n = true ∧ s = n ∧ t = n ∧ isMsk n D = true ∧ isMsk n E = true ∧ A = pic n (gf (joinUnionOf D E) (n * n)) ∧ I = pic n (gf (joinIntersectionOf D E) (n * n))
theorem bothTwo (s t : Int) (D E : Array Value) (hD : Wav s D) (hE : Wav t E) : ∃ (c u1 u2 u3 u4 : Int) (A B I J : Array Value), FinW u1 A ∧ Wav u2 B ∧ FinW u3 I ∧ Wav u4 J ∧
    (∀ w, Calls Try.prog 15 #[.agg D, .agg E] w fun e w' => e = .returned (.tuple #[.agg A, .int .i64 c]) ∧ Below w.heap.size w w') ∧ (∀ w, Calls Try.prog 16 #[.agg D, .agg E] w fun e w' => e = .returned (.tuple #[.agg B, .int .i64 c]) ∧ Below w.heap.size w w') ∧
    (∀ w, Calls Try.prog 17 #[.agg D, .agg E] w fun e w' => e = .returned (.tuple #[.agg I, .int .i64 c]) ∧ Below w.heap.size w w') ∧ (∀ w, Calls Try.prog 18 #[.agg D, .agg E] w fun e w' => e = .returned (.tuple #[.agg J, .int .i64 c]) ∧ Below w.heap.size w w') ∧
    (∀ w, (binOp .neq 30 (.agg A) (.agg B)).run Try.prog w = .ok (.bool false) w) ∧ (∀ w, (binOp .neq 30 (.agg I) (.agg J)).run Try.prog w = .ok (.bool false) w) ∧ (c = 0 ∧ OneSide s t D E A I ∨ c = 1 ∨ c = 2) := by
  obtain ⟨u1, A, B, hA, hB, i1, s1, n1, q1⟩ := bothUnion s t D E hD hE
  obtain ⟨u2, I, J, hI, hJ, i2, s2, n2, q2⟩ := bothInter s t D E hD hE
  refine ⟨twoCode s t D E, u1, u1, u2, u2, A, B, I, J, hA, hB, hI, hJ, i1, s1, i2, s2, n1, n2, ?_⟩
  by_cases h : twoCode s t D E = 0
  · refine .inl ⟨h, ?_⟩
    obtain ⟨h1, h2, rfl⟩ := two_zero s t D E h
    obtain ⟨_, _, hs⟩ := isMsk_parts s D h1
    obtain ⟨n, rfl⟩ : ∃ n : Nat, s = n := ⟨s.toNat, by rcases side_yes s hs with e | e | e | e <;> omega⟩
    refine ⟨n, hs, rfl, rfl, h1, h2, ?_, ?_⟩
    · rw [q1 h, Int.toNat_natCast]
    · rw [q2 h, Int.toNat_natCast]
  · refine .inr ?_
    unfold twoCode at h ⊢
    by_cases h1 : isMsk s D = false ∨ isMsk t E = false
    · rw [if_pos h1]; exact .inl rfl
    · rw [if_neg h1] at h ⊢
      by_cases h2 : s ≠ t
      · rw [if_pos h2]; exact .inr rfl
      · rw [if_neg h2] at h; omega

/-- what is known where a wave and a mask are of one side: the complement, what is behind it, and the sum -/
def OnAdd (D E A : Array Value) : Prop := ∃ (u1 u2 u3 : Int) (C A2 G : Array Value), FinW u1 C ∧ FinW u2 A2 ∧ FinW u3 G ∧
    (∀ w, Calls Try.prog 22 #[.agg E] w fun e w' => e = .returned (.tuple #[.agg C, .int .i64 0]) ∧ Below w.heap.size w w') ∧
    (∀ w, Calls Try.prog 25 #[.agg D, .agg C] w fun e w' => e = .returned (.tuple #[.agg A2, .int .i64 0]) ∧ Below w.heap.size w w') ∧
    (∀ w, Calls Try.prog 27 #[.agg A, .agg A2] w fun e w' => e = .returned (.tuple #[.agg G, .int .i64 0]) ∧ Below w.heap.size w w') ∧
    ∀ w, (binOp .neq 30 (.agg G) (.agg D)).run Try.prog w = .ok (.bool false) w
theorem bothBeh (s t : Int) (D E : Array Value) (hD : Wav s D) (hE : Wav t E) : ∃ (u c : Int) (A : Array Value), FinW u A ∧
    (∀ w, Calls Try.prog 25 #[.agg D, .agg E] w fun e w' => e = .returned (.tuple #[.agg A, .int .i64 c]) ∧ Below w.heap.size w w') ∧ (∀ w, Calls Try.prog 26 #[.agg D, .agg E] w fun e w' => e = .returned (.tuple #[.agg A, .int .i64 c]) ∧ Below w.heap.size w w') ∧ (c = 0 ∧ OnAdd D E A ∨ c = 1 ∨ c = 2) := by
  obtain ⟨u, A, hA, i1, s1, q1⟩ := bothBehind s t D E hD hE
  refine ⟨u, behCode s t D E, A, hA, i1, s1, ?_⟩
  by_cases h : behCode s t D E = 0
  · refine .inl ⟨h, ?_⟩
    obtain ⟨h1, h2, hst, hAe⟩ := q1 h
    subst hst
    obtain ⟨_, _, hs⟩ := isMsk_parts s E h2
    obtain ⟨n, hn⟩ : ∃ n : Nat, s = n := ⟨s.toNat, by rcases side_yes s hs with e | e | e | e <;> omega⟩
    subst hn
    obtain ⟨u3, C, C', cc, hC, _, ic, _, _, qc⟩ := bothComp n E hE
    obtain ⟨hcc, hCe⟩ := qc h2
    subst hcc
    rw [Int.toNat_natCast] at hAe hCe
    have wC : Wav n C := by rw [hCe]; exact gf_wav n _ _
    have hm : isMsk n C = true := by rw [hCe]; exact rule_isMsk n hs (fun i => !open_ E i)
    have ho : ∀ k, k < n * n → open_ C k = !open_ E k := fun k hk => by rw [hCe]; exact rule_open n hs (fun i => !open_ E i) k hk
    obtain ⟨u4, A2, hA2, ia, _, qa⟩ := bothBehind n n D C hD wC
    have hz : behCode n n D C = 0 := by
      unfold behCode
      rw [if_neg (by rw [h1, hm]; simp), if_neg (by simp)]
    obtain ⟨_, _, _, hA2e⟩ := qa hz
    rw [Int.toNat_natCast] at hA2e
    rw [hz] at ia
    obtain ⟨G, hG, ig, ng⟩ := addUp n hs D E C hD h1 ho
    rw [← hAe, ← hA2e] at ig
    exact ⟨u3, u4, n, C, A2, G, hC, hA2, hG, ic, ia, ig, ng⟩
  · refine .inr ?_
    unfold behCode at h ⊢
    by_cases h1 : isWav s D = false ∨ isMsk t E = false
    · rw [if_pos h1]; exact .inl rfl
    · rw [if_neg h1] at h ⊢
      by_cases h2 : s ≠ t
      · rw [if_pos h2]; exact .inr rfl
      · rw [if_neg h2] at h; omega

set_option maxRecDepth 100000 in
set_option maxHeartbeats 40000000 in
theorem masks_walk (ad : Option Addr) (len cap : Nat) (w : World) (hc : Code ad len w) (hbig : ¬ 4096 < len) :
    Calls Try.prog 4 #[.slice ad len cap] w fun e w' => e = .returned (.bool true) ∧ Below w.heap.size w w' := by
  have HC := Lib.hid hc
  have hz37 := (zero_of_info info37').1
  have HS37 := Lib.hid (zero_of_info info37').2
  have HZ37 : Hid ((pic 0 zc).size = 65) := Lib.hid (pic_size 0 zc zc_size)
  have hne := pic_ne
  generalize pic 0 zc = Z at *
  have hd : decide (4096 < len) = false := by simp [hbig]
  clear hc
  go_enter Try.func4, Try.ntmps4
  go_wp2_with fail
  refine (big_any _ _ _ _).mono ?_
  rw [hd]
  rintro e w0 ⟨rfl, hw0⟩
  rw [hw0]
  clear hw0 w0 hd hbig
  go_wp2_with fail
  refine (dUnion_any ad len cap _ HC.out).mono ?_
  rintro e v0 ⟨s, t, D, E, rfl, hD, hE, b0⟩
  have HID : Hid ((Try.prog.info? 30).map (·.size) = some D.size) := Lib.hid (by rw [hD.1]; exact HS37.out)
  have HZD : Hid (Z.size = D.size) := Lib.hid (by rw [hD.1]; exact HZ37.out)
  have H1D := Lib.hid (wav_one hD)
  have HIE : Hid ((Try.prog.info? 30).map (·.size) = some E.size) := Lib.hid (by rw [hE.1]; exact HS37.out)
  have HZE : Hid (Z.size = E.size) := Lib.hid (by rw [hE.1]; exact HZ37.out)
  have H1E := Lib.hid (wav_one hE)
  obtain ⟨c, u1, u2, u3, u4, A, B, I, J, hA, hB, hI, hJ, hiA, hsB, hiI, hsJ, neA, neI, hcc⟩ := bothTwo s t D E hD hE
  have HIA : Hid ((Try.prog.info? 30).map (·.size) = some A.size) := Lib.hid (by rw [hA.1]; exact HS37.out)
  have HZA : Hid (Z.size = A.size) := Lib.hid (by rw [hA.1]; exact HZ37.out)
  have H1A := Lib.hid (finW_one hA)
  have HIB : Hid ((Try.prog.info? 30).map (·.size) = some B.size) := Lib.hid (by rw [hB.1]; exact HS37.out)
  have HZB : Hid (Z.size = B.size) := Lib.hid (by rw [hB.1]; exact HZ37.out)
  have H1B := Lib.hid (wav_one hB)
  have HII : Hid ((Try.prog.info? 30).map (·.size) = some I.size) := Lib.hid (by rw [hI.1]; exact HS37.out)
  have HZI : Hid (Z.size = I.size) := Lib.hid (by rw [hI.1]; exact HZ37.out)
  have H1I := Lib.hid (finW_one hI)
  have HIJ : Hid ((Try.prog.info? 30).map (·.size) = some J.size) := Lib.hid (by rw [hJ.1]; exact HS37.out)
  have HZJ : Hid (Z.size = J.size) := Lib.hid (by rw [hJ.1]; exact HZ37.out)
  have H1J := Lib.hid (wav_one hJ)
  have HhiA := Lib.hid hiA
  have HhsB := Lib.hid hsB
  have HhiI := Lib.hid hiI
  have HhsJ := Lib.hid hsJ
  have HM1 := Lib.hid (implIsMask_any s D hD)
  have HM2 := Lib.hid (specIsMask_any s D hD)
  have HcD := Lib.hid hD
  have HcE := Lib.hid hE
  clear hA hB hI hJ hiA hsB hiI hsJ hD hE
  go_upto_region 4 with (first | (refine wpList_store_row rfl 30 (.tmp 3) (.tmp 52) rfl v0.heap.size D rfl rfl 30 Z (h2_0 _ _ _) HID.out HZD.out H1D.out ?_; rw [setRow_al20]; go_frame) | (refine wpList_store_row rfl 30 (.tmp 4) (.tmp 53) rfl (v0.heap.size + 1) E rfl rfl 30 Z (h2_1 _ _ _) HIE.out HZE.out H1E.out ?_; rw [setRow_al2]; go_frame))
  have L0 := Lib.hid (Lay.base b0 (lay2 v0 D E))
  clear b0
  generalize (v0.alloc (.cells D 30)).alloc (.cells E 30) = v1 at *
  generalize v0.heap.size + 1 = bE at *
  generalize v0.heap.size = bD at *
  go_wp2_with (first | (refine wpList_load_row rfl 30 (.tmp 3) rfl bD rfl 30 D (0, 0) _ (L0.out.at 1 rfl) Try.underlying30 rfl HID.out ?_; go_frame) | (refine wpList_load_row rfl 30 (.tmp 4) rfl bE rfl 30 E (0, 0) _ (L0.out.at 0 rfl) Try.underlying30 rfl HIE.out ?_; go_frame))
  refine (HhiA.out _).mono ?_
  rintro e w1 ⟨rfl, b1⟩
  have L1 := Lib.hid ((L0.out.below b1).push A)
  clear b1 L0
  go_upto_region 5 with (refine wpList_store_row rfl 30 (.tmp 5) (.tmp 58) rfl w1.heap.size A rfl rfl 30 Z (h1_0 _ _) HIA.out HZA.out H1A.out ?_; rw [World.setRow_alloc_new]; go_frame)
  generalize w1.heap.size = bA at *
  generalize w1.alloc (.cells A 30) = v2 at *
  go_wp2_with (first | (refine wpList_load_row rfl 30 (.tmp 3) rfl bD rfl 30 D (0, 0) _ (L1.out.at 2 rfl) Try.underlying30 rfl HID.out ?_; go_frame) | (refine wpList_load_row rfl 30 (.tmp 4) rfl bE rfl 30 E (0, 0) _ (L1.out.at 1 rfl) Try.underlying30 rfl HIE.out ?_; go_frame))
  refine (HhsB.out _).mono ?_
  rintro e w2 ⟨rfl, b2⟩
  have L2 := Lib.hid ((L1.out.below b2).push B)
  clear b2 L1
  go_upto_region 6 with (refine wpList_store_row rfl 30 (.tmp 7) (.tmp 64) rfl w2.heap.size B rfl rfl 30 Z (h1_0 _ _) HIB.out HZB.out H1B.out ?_; rw [World.setRow_alloc_new]; go_frame)
  generalize w2.heap.size = bB at *
  generalize w2.alloc (.cells B 30) = v3 at *
  go_wp2_with (first | (refine wpList_load_row rfl 30 (.tmp 3) rfl bD rfl 30 D (0, 0) _ (L2.out.at 3 rfl) Try.underlying30 rfl HID.out ?_; go_frame) | (refine wpList_load_row rfl 30 (.tmp 4) rfl bE rfl 30 E (0, 0) _ (L2.out.at 2 rfl) Try.underlying30 rfl HIE.out ?_; go_frame))
  refine (HhiI.out _).mono ?_
  rintro e w3 ⟨rfl, b3⟩
  have L3 := Lib.hid ((L2.out.below b3).push I)
  clear b3 L2
  go_upto_region 7 with (refine wpList_store_row rfl 30 (.tmp 9) (.tmp 70) rfl w3.heap.size I rfl rfl 30 Z (h1_0 _ _) HII.out HZI.out H1I.out ?_; rw [World.setRow_alloc_new]; go_frame)
  generalize w3.heap.size = bI at *
  generalize w3.alloc (.cells I 30) = v4 at *
  go_wp2_with (first | (refine wpList_load_row rfl 30 (.tmp 3) rfl bD rfl 30 D (0, 0) _ (L3.out.at 4 rfl) Try.underlying30 rfl HID.out ?_; go_frame) | (refine wpList_load_row rfl 30 (.tmp 4) rfl bE rfl 30 E (0, 0) _ (L3.out.at 3 rfl) Try.underlying30 rfl HIE.out ?_; go_frame))
  refine (HhsJ.out _).mono ?_
  rintro e w4 ⟨rfl, b4⟩
  have L4 := Lib.hid ((L3.out.below b4).push J)
  clear b4 L3
  go_upto_region 8 with (refine wpList_store_row rfl 30 (.tmp 11) (.tmp 76) rfl w4.heap.size J rfl rfl 30 Z (h1_0 _ _) HIJ.out HZJ.out H1J.out ?_; rw [World.setRow_alloc_new]; go_frame)
  generalize w4.heap.size = bJ at *
  generalize w4.alloc (.cells J 30) = v5 at *
  clear HZA H1A HZB H1B HZI H1I HZJ H1J HZD H1D HZE H1E
  have K0 : Lay [(bJ, J), (bI, I), (bB, B), (bA, A), (bE, E), (bD, D)] w v5.drew := L4.out.drewN 1
  refine wp_region_noPanic ?_
  refine wp_region_held_drew (S := Lay [(bJ, J), (bI, I), (bB, B), (bA, A), (bE, E), (bD, D)] w) (by kernel_rfl) K0 (fun h1 => ?_)
  clear K0
  refine wpAnyH_take (i := 0) (v := (.int .i64 c)) rfl (by kernel_rfl) (by kernel_rfl) (by kernel_rfl) (fun _ _ _ h => h) (.inl ⟨(wan_no rfl), fun w' hw' => ex_move (.tmp 6) (.int .i64 c) rfl rfl⟩) h1 ?_
  refine (show wpAnyH _ _ _ _ _ _ _ (Act.put _ (some 78) _) _ from ?_)
  go_frame
  refine wpAnyH_take (i := 1) (v := (.int .i64 c)) rfl (by kernel_rfl) (by kernel_rfl) (by kernel_rfl) (fun _ _ _ h => h) (.inl ⟨(wan_no rfl), fun w' hw' => ex_move (.tmp 8) (.int .i64 c) rfl rfl⟩) h1 ?_
  refine (show wpAnyH _ _ _ _ _ _ _ (Act.put _ (some 79) _) _ from ?_)
  go_frame
  refine wpAnyH_take (i := 2) (v := (.bool false)) rfl (by kernel_rfl) (by kernel_rfl) (by kernel_rfl) (fun _ _ _ h => h) (.inl ⟨(wan_no rfl), fun w' hw' => ex_neqInt _ _ (.tmp 78) (.tmp 79) .i64 c c rfl rfl rfl rfl⟩) h1 ?_
  refine (show wpAnyH _ _ _ _ _ _ _ (Act.put _ (some 80) _) _ from ?_)
  go_frame
  refine wpAnyH_take (i := 3) (v := (.bool false)) rfl (by kernel_rfl) (by kernel_rfl) (by kernel_rfl) (fun _ _ _ h => h) (.inl ⟨(wan_no rfl), fun w' hw' => ex_move (.tmp 80) (.bool false) rfl rfl⟩) h1 ?_
  refine (show wpAnyH _ _ _ _ _ _ _ (Act.put _ (some 81) _) _ from ?_)
  go_frame
  refine wpAnyH_take (i := 4) (v := (.agg A)) rfl (by kernel_rfl) (by kernel_rfl) (by kernel_rfl) (fun _ _ _ h => h) (.inl ⟨(wan_of rfl rfl rfl), fun w' hw' => ex_load (.tmp 5) bA A rfl rfl (hw'.at 3 rfl) HIA.out⟩) h1 ?_
  refine (show wpAnyH _ _ _ _ _ _ _ (Act.put _ (some 82) _) _ from ?_)
  go_frame
  refine wpAnyH_take (i := 5) (v := (.agg B)) rfl (by kernel_rfl) (by kernel_rfl) (by kernel_rfl) (fun _ _ _ h => h) (.inl ⟨(wan_of rfl rfl rfl), fun w' hw' => ex_load (.tmp 7) bB B rfl rfl (hw'.at 2 rfl) HIB.out⟩) h1 ?_
  refine (show wpAnyH _ _ _ _ _ _ _ (Act.put _ (some 83) _) _ from ?_)
  go_frame
  refine wpAnyH_take (i := 6) (v := (.bool false)) rfl (by kernel_rfl) (by kernel_rfl) (by kernel_rfl) (fun _ _ _ h => h) (.inl ⟨(wan_of rfl rfl rfl), fun w' hw' => ex_neqW (.tmp 82) (.tmp 83) A B rfl rfl rfl neA⟩) h1 ?_
  refine (show wpAnyH _ _ _ _ _ _ _ (Act.put _ (some 84) _) _ from ?_)
  go_frame
  refine wpAnyH_take (i := 7) (v := (.bool false)) rfl (by kernel_rfl) (by kernel_rfl) (by kernel_rfl) (fun _ _ _ h => h) (.inl ⟨(wan_no rfl), fun w' hw' => ex_pick (.tmp 81) (.const (.bool true)) (.tmp 84) (.bool false) rfl rfl rfl⟩) h1 ?_
  refine (show wpAnyH _ _ _ _ _ _ _ (Act.put _ (some 85) _) _ from ?_)
  go_frame
  refine wpAnyH_take (i := 8) (v := (.bool false)) rfl (by kernel_rfl) (by kernel_rfl) (by kernel_rfl) (fun _ _ _ h => h) (.inl ⟨(wan_no rfl), fun w' hw' => ex_move (.tmp 85) (.bool false) rfl rfl⟩) h1 ?_
  refine (show wpAnyH _ _ _ _ _ _ _ (Act.put _ (some 86) _) _ from ?_)
  go_frame
  refine wpAnyH_take (i := 9) (v := (.int .i64 c)) rfl (by kernel_rfl) (by kernel_rfl) (by kernel_rfl) (fun _ _ _ h => h) (.inl ⟨(wan_of rfl rfl rfl), fun w' hw' => ex_move (.tmp 10) (.int .i64 c) rfl rfl⟩) h1 ?_
  refine (show wpAnyH _ _ _ _ _ _ _ (Act.put _ (some 87) _) _ from ?_)
  go_frame
  refine wpAnyH_take (i := 10) (v := (.int .i64 c)) rfl (by kernel_rfl) (by kernel_rfl) (by kernel_rfl) (fun _ _ _ h => h) (.inl ⟨(wan_of rfl rfl rfl), fun w' hw' => ex_move (.tmp 12) (.int .i64 c) rfl rfl⟩) h1 ?_
  refine (show wpAnyH _ _ _ _ _ _ _ (Act.put _ (some 88) _) _ from ?_)
  go_frame
  refine wpAnyH_take (i := 11) (v := (.bool false)) rfl (by kernel_rfl) (by kernel_rfl) (by kernel_rfl) (fun _ _ _ h => h) (.inl ⟨(wan_of rfl rfl rfl), fun w' hw' => ex_neqInt _ _ (.tmp 87) (.tmp 88) .i64 c c rfl rfl rfl rfl⟩) h1 ?_
  refine (show wpAnyH _ _ _ _ _ _ _ (Act.put _ (some 89) _) _ from ?_)
  go_frame
  refine wpAnyH_take (i := 12) (v := (.bool false)) rfl (by kernel_rfl) (by kernel_rfl) (by kernel_rfl) (fun _ _ _ h => h) (.inl ⟨(wan_no rfl), fun w' hw' => ex_pick (.tmp 86) (.const (.bool true)) (.tmp 89) (.bool false) rfl rfl rfl⟩) h1 ?_
  refine (show wpAnyH _ _ _ _ _ _ _ (Act.put _ (some 90) _) _ from ?_)
  go_frame
  refine wpAnyH_take (i := 13) (v := (.bool false)) rfl (by kernel_rfl) (by kernel_rfl) (by kernel_rfl) (fun _ _ _ h => h) (.inl ⟨(wan_no rfl), fun w' hw' => ex_move (.tmp 90) (.bool false) rfl rfl⟩) h1 ?_
  refine (show wpAnyH _ _ _ _ _ _ _ (Act.put _ (some 91) _) _ from ?_)
  go_frame
  refine wpAnyH_take (i := 14) (v := (.agg I)) rfl (by kernel_rfl) (by kernel_rfl) (by kernel_rfl) (fun _ _ _ h => h) (.inl ⟨(wan_of rfl rfl rfl), fun w' hw' => ex_load (.tmp 9) bI I rfl rfl (hw'.at 1 rfl) HII.out⟩) h1 ?_
  refine (show wpAnyH _ _ _ _ _ _ _ (Act.put _ (some 92) _) _ from ?_)
  go_frame
  refine wpAnyH_take (i := 15) (v := (.agg J)) rfl (by kernel_rfl) (by kernel_rfl) (by kernel_rfl) (fun _ _ _ h => h) (.inl ⟨(wan_of rfl rfl rfl), fun w' hw' => ex_load (.tmp 11) bJ J rfl rfl (hw'.at 0 rfl) HIJ.out⟩) h1 ?_
  refine (show wpAnyH _ _ _ _ _ _ _ (Act.put _ (some 93) _) _ from ?_)
  go_frame
  refine wpAnyH_take (i := 16) (v := (.bool false)) rfl (by kernel_rfl) (by kernel_rfl) (by kernel_rfl) (fun _ _ _ h => h) (.inl ⟨(wan_of rfl rfl rfl), fun w' hw' => ex_neqW (.tmp 92) (.tmp 93) I J rfl rfl rfl neI⟩) h1 ?_
  refine (show wpAnyH _ _ _ _ _ _ _ (Act.put _ (some 94) _) _ from ?_)
  go_frame
  refine wpAnyH_take (i := 17) (v := (.bool false)) rfl (by kernel_rfl) (by kernel_rfl) (by kernel_rfl) (fun _ _ _ h => h) (.inl ⟨(wan_no rfl), fun w' hw' => ex_pick (.tmp 91) (.const (.bool true)) (.tmp 94) (.bool false) rfl rfl rfl⟩) h1 ?_
  refine (show wpAnyH _ _ _ _ _ _ _ (Act.put _ (some 95) _) _ from ?_)
  go_frame
  refine wpAnyH_take (i := 18) (v := (.bool false)) rfl (by kernel_rfl) (by kernel_rfl) (by kernel_rfl) (fun _ _ _ h => h) (.inl ⟨(wan_no rfl), fun w' hw' => ex_move (.tmp 95) (.bool false) rfl rfl⟩) h1 ?_
  refine (show wpAnyH _ _ _ _ _ _ _ (Act.put _ (some 96) _) _ from ?_)
  go_frame
  refine wpAnyH_take (i := 19) (v := (.agg D)) rfl (by kernel_rfl) (by kernel_rfl) (by kernel_rfl) (fun _ _ _ h => h) (.inl ⟨(wan_of rfl rfl rfl), fun w' hw' => ex_load (.tmp 3) bD D rfl rfl (hw'.at 5 rfl) HID.out⟩) h1 ?_
  refine (show wpAnyH _ _ _ _ _ _ _ (Act.put _ (some 97) _) _ from ?_)
  go_frame
  refine wpAnyH_take (i := 21) (v := (.agg D)) rfl (by kernel_rfl) (by kernel_rfl) (by kernel_rfl) (fun _ _ _ h => h) (.inl ⟨(wan_of rfl rfl rfl), fun w' hw' => ex_load (.tmp 3) bD D rfl rfl (hw'.at 5 rfl) HID.out⟩) h1 ?_
  refine (show wpAnyH _ _ _ _ _ _ _ (Act.put _ (some 99) _) _ from ?_)
  go_frame
  clear L4
  generalize v5.drew = v6 at *
  refine wpAnyH_ready (rs := [20]) (by kernel_rfl) (by simp) ?_
  refine AllReadyH.cons (o := _) rfl (fun K hK => ?_) AllReadyH.nil
  rw [if_pos (wan_of rfl rfl rfl)]
  go_simp
  refine (HM1.out _).mono ?_
  rintro e x20 ⟨rfl, k1⟩
  refine hK.out _ _ (h1.below k1) (fun h2 => ?_)
  clear hK K
  refine wpAnyH_ready (rs := [22]) (by kernel_rfl) (by simp) ?_
  refine AllReadyH.cons (o := _) rfl (fun K hK => ?_) AllReadyH.nil
  rw [if_pos (wan_of rfl rfl rfl)]
  go_simp
  refine (HM2.out _).mono ?_
  rintro e x22 ⟨rfl, k2⟩
  refine hK.out _ _ (h2.below k2) (fun h3 => ?_)
  clear hK K
  clear h1 h2 k1 k2 HM1 HM2
  refine wpAnyH_take (i := 23) (v := (.bool false)) rfl (by kernel_rfl) (by kernel_rfl) (by kernel_rfl) (fun _ _ _ h => h) (.inl ⟨(wan_of rfl rfl rfl), fun w' hw' => ex_neqBool (.tmp 98) (.tmp 100) (isMsk s D) rfl rfl rfl⟩) h3 ?_
  refine (show wpAnyH _ _ _ _ _ _ _ (Act.put _ (some 101) _) _ from ?_)
  go_frame
  refine wpAnyH_take (i := 24) (v := (.bool false)) rfl (by kernel_rfl) (by kernel_rfl) (by kernel_rfl) (fun _ _ _ h => h) (.inl ⟨(wan_no rfl), fun w' hw' => ex_pick (.tmp 96) (.const (.bool true)) (.tmp 101) (.bool false) rfl rfl rfl⟩) h3 ?_
  refine (show wpAnyH _ _ _ _ _ _ _ (Act.put _ (some 102) _) _ from ?_)
  go_frame
  refine wpAnyH_done (by kernel_rfl) ?_ _
  refine NoPanic.normal ?_
  have LL := Lib.hid h3
  clear h3 neA neI HIB HIJ
  generalize isMsk s D = q at *
  go_upto_if 104 with fail
  go_cut [] (fun wx => Hid (Below w.heap.size w wx))
  case first => as_aux_lemma =>
    rcases hcc with ⟨rfl, hon⟩ | rfl | rfl
    · obtain ⟨n, hs, rfl, rfl, m1, m2, hA, hI⟩ := hon
      obtain ⟨u5, C, C', cc, hC, _, ic, _, _, qc⟩ := bothComp n D HcD.out
      obtain ⟨rfl, hCe⟩ := qc m1
      rw [Int.toNat_natCast] at hCe
      have HIC : Hid ((Try.prog.info? 30).map (·.size) = some C.size) := Lib.hid (by rw [hC.1]; exact HS37.out)
      have HZC : Hid (Z.size = C.size) := Lib.hid (by rw [hC.1]; exact HZ37.out)
      have H1C := Lib.hid (finW_one hC)
      have OD := Lib.hid (opens_of n hs D HcD.out m1)
      have OE := Lib.hid (opens_of n hs E HcE.out m2)
      have OA : Hid (Opens n A) := Lib.hid (by rw [hA]; exact opens_of n hs _ (gf_wav n _ _) (rule_isMsk n hs (fun i => open_ D i || open_ E i)))
      have OI : Hid (Opens n I) := Lib.hid (by rw [hI]; exact opens_of n hs _ (gf_wav n _ _) (rule_isMsk n hs (fun i => open_ D i && open_ E i)))
      have OC : Hid (Opens n C) := Lib.hid (by rw [hCe]; exact opens_of n hs _ (gf_wav n _ _) (rule_isMsk n hs (fun i => !open_ D i)))
      have HIC0 := Lib.hid ic
      have e1 := join_tot n hs D E
      have e2 := comp_tot n hs D
      rw [← hA, ← hI] at e1
      rw [← hCe] at e2
      have HH := Lib.hid hs
      have T := fun F => tot_in n hs F
      have TD := tot_in n hs D
      have TE := tot_in n hs E
      have TA := tot_in n hs A
      have TI := tot_in n hs I
      have TC := tot_in n hs C
      have hn8 : 1 ≤ n ∧ n ≤ 8 := by rcases side_nat n hs with rfl | rfl | rfl | rfl <;> omega
      have hd0 : D[0]? = some (.int .i64 (n : Int)) := HcD.out.2.1
      have Hd0 := Lib.hid hd0
      have E1 := Lib.hid e1
      have E2 := Lib.hid e2
      have TT := Lib.hid (And.intro TD (And.intro TE (And.intro TA (And.intro TI TC))))
      clear ic hC qc hA hI hCe m1 m2 hs e1 e2 TD TE TA TI TC hd0 T
      go_wp2_with (refine wpList_load_row rfl 30 (.tmp 3) rfl bD rfl 30 D (0, 0) _ (LL.out.at 5 rfl) Try.underlying30 rfl HID.out ?_; go_frame)
      refine (OD.out _).mono ?_
      rintro e y11 ⟨ba, rfl, b11, r11⟩
      have M11 := Lib.hid (LL.out.below b11)
      have Rba := Lib.hid r11
      clear b11 r11 LL OD
      go_wp2_with (refine wpList_load_row rfl 30 (.tmp 4) rfl bE rfl 30 E (0, 0) _ (M11.out.at 4 rfl) Try.underlying30 rfl HIE.out ?_; go_frame)
      refine (OE.out _).mono ?_
      rintro e y12 ⟨bb, rfl, b12, r12⟩
      have M12 := Lib.hid (M11.out.below b12)
      have Rba_12 := Lib.hid (Rba.out.below b12)
      clear Rba
      have Rbb := Lib.hid r12
      clear b12 r12 M11 OE
      go_wp2_with (refine wpList_load_row rfl 30 (.tmp 5) rfl bA rfl 30 A (0, 0) _ (M12.out.at 3 rfl) Try.underlying30 rfl HIA.out ?_; go_frame)
      refine (OA.out _).mono ?_
      rintro e y13 ⟨bc, rfl, b13, r13⟩
      have M13 := Lib.hid (M12.out.below b13)
      have Rba_13 := Lib.hid (Rba_12.out.below b13)
      have Rbb_13 := Lib.hid (Rbb.out.below b13)
      clear Rba_12 Rbb
      have Rbc := Lib.hid r13
      clear b13 r13 M12 OA
      go_wp2_with (refine wpList_load_row rfl 30 (.tmp 9) rfl bI rfl 30 I (0, 0) _ (M13.out.at 1 rfl) Try.underlying30 rfl HII.out ?_; go_frame)
      refine (OI.out _).mono ?_
      rintro e y14 ⟨bd, rfl, b14, r14⟩
      have M14 := Lib.hid (M13.out.below b14)
      have Rba_14 := Lib.hid (Rba_13.out.below b14)
      have Rbb_14 := Lib.hid (Rbb_13.out.below b14)
      have Rbc_14 := Lib.hid (Rbc.out.below b14)
      clear Rba_13 Rbb_13 Rbc
      have Rbd := Lib.hid r14
      clear b14 r14 M13 OI
      go_wp2_with (refine wpList_load_row rfl 30 (.tmp 3) rfl bD rfl 30 D (0, 0) _ (M14.out.at 5 rfl) Try.underlying30 rfl HID.out ?_; go_frame)
      refine (HIC0.out _).mono ?_
      rintro e y15 ⟨rfl, b15⟩
      have M15 := Lib.hid ((M14.out.below b15).push C)
      have Rba_15 := Lib.hid ((Rba_14.out.below b15).alloc (.cells C 30))
      have Rbb_15 := Lib.hid ((Rbb_14.out.below b15).alloc (.cells C 30))
      have Rbc_15 := Lib.hid ((Rbc_14.out.below b15).alloc (.cells C 30))
      have Rbd_15 := Lib.hid ((Rbd.out.below b15).alloc (.cells C 30))
      clear b15 M14 HIC0 Rba_14 Rbb_14 Rbc_14 Rbd
      go_upto_region 16 with (refine wpList_store_row rfl 30 (.tmp 21) (.tmp 128) rfl y15.heap.size C rfl rfl 30 Z (h1_0 _ _) HIC.out HZC.out H1C.out ?_; rw [World.setRow_alloc_new]; go_frame)
      generalize y15.heap.size = bC at *
      generalize y15.alloc (.cells C 30) = z15 at *
      go_wp2_with (refine wpList_load_row rfl 30 (.tmp 21) rfl bC rfl 30 C (0, 0) _ (M15.out.at 0 rfl) Try.underlying30 rfl HIC.out ?_; go_frame)
      refine (OC.out _).mono ?_
      rintro e y16 ⟨be, rfl, b16, r16⟩
      have M16 := Lib.hid (M15.out.below b16)
      have Rba_16 := Lib.hid (Rba_15.out.below b16)
      have Rbb_16 := Lib.hid (Rbb_15.out.below b16)
      have Rbc_16 := Lib.hid (Rbc_15.out.below b16)
      have Rbd_16 := Lib.hid (Rbd_15.out.below b16)
      clear Rba_15 Rbb_15 Rbc_15 Rbd_15
      have Rbe := Lib.hid r16
      clear b16 r16 M15 OC
      go_upto_region 17 with fail
      have K0 := M16.out.drewN 1
      have BB : Hid (Below w.heap.size w y16.drew) := Lib.hid (M16.out.drewN 1).2
      have P0 : y16.drew.cell? ⟨bD, 0, none⟩ = some (.int .i64 (n : Int)) := by rw [show y16.drew = y16.drewN 1 from rfl, Lay.cell K0 6 rfl]; exact Hd0.out
      have Sba := Lib.hid Rba_16.out.drew
      have Sbb := Lib.hid Rbb_16.out.drew
      have Sbc := Lib.hid Rbc_16.out.drew
      have Sbd := Lib.hid Rbd_16.out.drew
      have Sbe := Lib.hid Rbe.out.drew
      clear K0 M16 Rba_16 Rbb_16 Rbc_16 Rbd_16 Rbe
      refine wp_region_noPanic ?_
      refine wp_region_held_drew (S := fun x => x = y16.drew) (by kernel_rfl) rfl (fun h1 => ?_)
      generalize y16.drew = x0 at *
      refine wpAnyH_take (i := 0) (v := (.int .i64 0)) rfl (by kernel_rfl) (by kernel_rfl) (by kernel_rfl) (fun _ _ _ h => h) (.inl ⟨(wan_no rfl), fun w' hw' => ex_move (.tmp 10) (.int .i64 0) rfl rfl⟩) h1 ?_
      refine (show wpAnyH _ _ _ _ _ _ _ (Act.put _ (some 135) _) _ from ?_)
      go_frame
      refine wpAnyH_take (i := 1) (v := (.bool false)) rfl (by kernel_rfl) (by kernel_rfl) (by kernel_rfl) (fun _ _ _ h => h) (.inl ⟨(wan_no rfl), fun w' hw' => ex_neqInt _ _ (.tmp 135) (.const (.int .i64 0)) .i64 0 0 rfl rfl rfl rfl⟩) h1 ?_
      refine (show wpAnyH _ _ _ _ _ _ _ (Act.put _ (some 136) _) _ from ?_)
      go_frame
      refine wpAnyH_take (i := 2) (v := (.bool false)) rfl (by kernel_rfl) (by kernel_rfl) (by kernel_rfl) (fun _ _ _ h => h) (.inl ⟨(wan_no rfl), fun w' hw' => ex_move (.tmp 136) (.bool false) rfl rfl⟩) h1 ?_
      refine (show wpAnyH _ _ _ _ _ _ _ (Act.put _ (some 137) _) _ from ?_)
      go_frame
      refine wpAnyH_take (i := 3) (v := (.int .i64 0)) rfl (by kernel_rfl) (by kernel_rfl) (by kernel_rfl) (fun _ _ _ h => h) (.inl ⟨(wan_of rfl rfl rfl), fun w' hw' => ex_move (.tmp 14) (.int .i64 0) rfl rfl⟩) h1 ?_
      refine (show wpAnyH _ _ _ _ _ _ _ (Act.put _ (some 138) _) _ from ?_)
      go_frame
      refine wpAnyH_take (i := 4) (v := (.bool false)) rfl (by kernel_rfl) (by kernel_rfl) (by kernel_rfl) (fun _ _ _ h => h) (.inl ⟨(wan_of rfl rfl rfl), fun w' hw' => ex_neqInt _ _ (.tmp 138) (.const (.int .i64 0)) .i64 0 0 rfl rfl rfl rfl⟩) h1 ?_
      refine (show wpAnyH _ _ _ _ _ _ _ (Act.put _ (some 139) _) _ from ?_)
      go_frame
      refine wpAnyH_take (i := 5) (v := (.bool false)) rfl (by kernel_rfl) (by kernel_rfl) (by kernel_rfl) (fun _ _ _ h => h) (.inl ⟨(wan_no rfl), fun w' hw' => ex_pick (.tmp 137) (.const (.bool true)) (.tmp 139) (.bool false) rfl rfl rfl⟩) h1 ?_
      refine (show wpAnyH _ _ _ _ _ _ _ (Act.put _ (some 140) _) _ from ?_)
      go_frame
      refine wpAnyH_take (i := 6) (v := (.bool false)) rfl (by kernel_rfl) (by kernel_rfl) (by kernel_rfl) (fun _ _ _ h => h) (.inl ⟨(wan_no rfl), fun w' hw' => ex_move (.tmp 140) (.bool false) rfl rfl⟩) h1 ?_
      refine (show wpAnyH _ _ _ _ _ _ _ (Act.put _ (some 141) _) _ from ?_)
      go_frame
      refine wpAnyH_take (i := 7) (v := (.int .i64 0)) rfl (by kernel_rfl) (by kernel_rfl) (by kernel_rfl) (fun _ _ _ h => h) (.inl ⟨(wan_of rfl rfl rfl), fun w' hw' => ex_move (.tmp 16) (.int .i64 0) rfl rfl⟩) h1 ?_
      refine (show wpAnyH _ _ _ _ _ _ _ (Act.put _ (some 142) _) _ from ?_)
      go_frame
      refine wpAnyH_take (i := 8) (v := (.bool false)) rfl (by kernel_rfl) (by kernel_rfl) (by kernel_rfl) (fun _ _ _ h => h) (.inl ⟨(wan_of rfl rfl rfl), fun w' hw' => ex_neqInt _ _ (.tmp 142) (.const (.int .i64 0)) .i64 0 0 rfl rfl rfl rfl⟩) h1 ?_
      refine (show wpAnyH _ _ _ _ _ _ _ (Act.put _ (some 143) _) _ from ?_)
      go_frame
      refine wpAnyH_take (i := 9) (v := (.bool false)) rfl (by kernel_rfl) (by kernel_rfl) (by kernel_rfl) (fun _ _ _ h => h) (.inl ⟨(wan_no rfl), fun w' hw' => ex_pick (.tmp 141) (.const (.bool true)) (.tmp 143) (.bool false) rfl rfl rfl⟩) h1 ?_
      refine (show wpAnyH _ _ _ _ _ _ _ (Act.put _ (some 144) _) _ from ?_)
      go_frame
      refine wpAnyH_take (i := 10) (v := (.bool false)) rfl (by kernel_rfl) (by kernel_rfl) (by kernel_rfl) (fun _ _ _ h => h) (.inl ⟨(wan_no rfl), fun w' hw' => ex_move (.tmp 144) (.bool false) rfl rfl⟩) h1 ?_
      refine (show wpAnyH _ _ _ _ _ _ _ (Act.put _ (some 145) _) _ from ?_)
      go_frame
      refine wpAnyH_take (i := 11) (v := (.int .i64 0)) rfl (by kernel_rfl) (by kernel_rfl) (by kernel_rfl) (fun _ _ _ h => h) (.inl ⟨(wan_of rfl rfl rfl), fun w' hw' => ex_move (.tmp 18) (.int .i64 0) rfl rfl⟩) h1 ?_
      refine (show wpAnyH _ _ _ _ _ _ _ (Act.put _ (some 146) _) _ from ?_)
      go_frame
      refine wpAnyH_take (i := 12) (v := (.bool false)) rfl (by kernel_rfl) (by kernel_rfl) (by kernel_rfl) (fun _ _ _ h => h) (.inl ⟨(wan_of rfl rfl rfl), fun w' hw' => ex_neqInt _ _ (.tmp 146) (.const (.int .i64 0)) .i64 0 0 rfl rfl rfl rfl⟩) h1 ?_
      refine (show wpAnyH _ _ _ _ _ _ _ (Act.put _ (some 147) _) _ from ?_)
      go_frame
      refine wpAnyH_take (i := 13) (v := (.bool false)) rfl (by kernel_rfl) (by kernel_rfl) (by kernel_rfl) (fun _ _ _ h => h) (.inl ⟨(wan_no rfl), fun w' hw' => ex_pick (.tmp 145) (.const (.bool true)) (.tmp 147) (.bool false) rfl rfl rfl⟩) h1 ?_
      refine (show wpAnyH _ _ _ _ _ _ _ (Act.put _ (some 148) _) _ from ?_)
      go_frame
      refine wpAnyH_take (i := 14) (v := (.bool false)) rfl (by kernel_rfl) (by kernel_rfl) (by kernel_rfl) (fun _ _ _ h => h) (.inl ⟨(wan_no rfl), fun w' hw' => ex_move (.tmp 148) (.bool false) rfl rfl⟩) h1 ?_
      refine (show wpAnyH _ _ _ _ _ _ _ (Act.put _ (some 149) _) _ from ?_)
      go_frame
      refine wpAnyH_take (i := 15) (v := (.int .i64 0)) rfl (by kernel_rfl) (by kernel_rfl) (by kernel_rfl) (fun _ _ _ h => h) (.inl ⟨(wan_of rfl rfl rfl), fun w' hw' => ex_move (.tmp 20) (.int .i64 0) rfl rfl⟩) h1 ?_
      refine (show wpAnyH _ _ _ _ _ _ _ (Act.put _ (some 150) _) _ from ?_)
      go_frame
      refine wpAnyH_take (i := 16) (v := (.bool false)) rfl (by kernel_rfl) (by kernel_rfl) (by kernel_rfl) (fun _ _ _ h => h) (.inl ⟨(wan_of rfl rfl rfl), fun w' hw' => ex_neqInt _ _ (.tmp 150) (.const (.int .i64 0)) .i64 0 0 rfl rfl rfl rfl⟩) h1 ?_
      refine (show wpAnyH _ _ _ _ _ _ _ (Act.put _ (some 151) _) _ from ?_)
      go_frame
      refine wpAnyH_take (i := 17) (v := (.bool false)) rfl (by kernel_rfl) (by kernel_rfl) (by kernel_rfl) (fun _ _ _ h => h) (.inl ⟨(wan_no rfl), fun w' hw' => ex_pick (.tmp 149) (.const (.bool true)) (.tmp 151) (.bool false) rfl rfl rfl⟩) h1 ?_
      refine (show wpAnyH _ _ _ _ _ _ _ (Act.put _ (some 152) _) _ from ?_)
      go_frame
      refine wpAnyH_take (i := 18) (v := (.bool false)) rfl (by kernel_rfl) (by kernel_rfl) (by kernel_rfl) (fun _ _ _ h => h) (.inl ⟨(wan_no rfl), fun w' hw' => ex_move (.tmp 152) (.bool false) rfl rfl⟩) h1 ?_
      refine (show wpAnyH _ _ _ _ _ _ _ (Act.put _ (some 153) _) _ from ?_)
      go_frame
      refine wpAnyH_take (i := 19) (v := (.int .i64 0)) rfl (by kernel_rfl) (by kernel_rfl) (by kernel_rfl) (fun _ _ _ h => h) (.inl ⟨(wan_of rfl rfl rfl), fun w' hw' => ex_move (.tmp 22) (.int .i64 0) rfl rfl⟩) h1 ?_
      refine (show wpAnyH _ _ _ _ _ _ _ (Act.put _ (some 154) _) _ from ?_)
      go_frame
      refine wpAnyH_take (i := 20) (v := (.bool false)) rfl (by kernel_rfl) (by kernel_rfl) (by kernel_rfl) (fun _ _ _ h => h) (.inl ⟨(wan_of rfl rfl rfl), fun w' hw' => ex_neqInt _ _ (.tmp 154) (.const (.int .i64 0)) .i64 0 0 rfl rfl rfl rfl⟩) h1 ?_
      refine (show wpAnyH _ _ _ _ _ _ _ (Act.put _ (some 155) _) _ from ?_)
      go_frame
      refine wpAnyH_take (i := 21) (v := (.bool false)) rfl (by kernel_rfl) (by kernel_rfl) (by kernel_rfl) (fun _ _ _ h => h) (.inl ⟨(wan_no rfl), fun w' hw' => ex_pick (.tmp 153) (.const (.bool true)) (.tmp 155) (.bool false) rfl rfl rfl⟩) h1 ?_
      refine (show wpAnyH _ _ _ _ _ _ _ (Act.put _ (some 156) _) _ from ?_)
      go_frame
      refine wpAnyH_take (i := 22) (v := (.bool false)) rfl (by kernel_rfl) (by kernel_rfl) (by kernel_rfl) (fun _ _ _ h => h) (.inl ⟨(wan_no rfl), fun w' hw' => ex_move (.tmp 156) (.bool false) rfl rfl⟩) h1 ?_
      refine (show wpAnyH _ _ _ _ _ _ _ (Act.put _ (some 157) _) _ from ?_)
      go_frame
      refine wpAnyH_take (i := 23) (v := (.int .i64 0)) rfl (by kernel_rfl) (by kernel_rfl) (by kernel_rfl) (fun _ _ _ h => h) (.inl ⟨(wan_of rfl rfl rfl), fun w' hw' => ex_move (.tmp 24) (.int .i64 0) rfl rfl⟩) h1 ?_
      refine (show wpAnyH _ _ _ _ _ _ _ (Act.put _ (some 158) _) _ from ?_)
      go_frame
      refine wpAnyH_take (i := 24) (v := (.bool false)) rfl (by kernel_rfl) (by kernel_rfl) (by kernel_rfl) (fun _ _ _ h => h) (.inl ⟨(wan_of rfl rfl rfl), fun w' hw' => ex_neqInt _ _ (.tmp 158) (.const (.int .i64 0)) .i64 0 0 rfl rfl rfl rfl⟩) h1 ?_
      refine (show wpAnyH _ _ _ _ _ _ _ (Act.put _ (some 159) _) _ from ?_)
      go_frame
      refine wpAnyH_take (i := 25) (v := (.bool false)) rfl (by kernel_rfl) (by kernel_rfl) (by kernel_rfl) (fun _ _ _ h => h) (.inl ⟨(wan_no rfl), fun w' hw' => ex_pick (.tmp 157) (.const (.bool true)) (.tmp 159) (.bool false) rfl rfl rfl⟩) h1 ?_
      refine (show wpAnyH _ _ _ _ _ _ _ (Act.put _ (some 160) _) _ from ?_)
      go_frame
      refine wpAnyH_take (i := 26) (v := (.bool false)) rfl (by kernel_rfl) (by kernel_rfl) (by kernel_rfl) (fun _ _ _ h => h) (.inl ⟨(wan_no rfl), fun w' hw' => ex_move (.tmp 160) (.bool false) rfl rfl⟩) h1 ?_
      refine (show wpAnyH _ _ _ _ _ _ _ (Act.put _ (some 161) _) _ from ?_)
      go_frame
      refine wpAnyH_take (i := 27) (v := (.slice (some ⟨ba, 0, none⟩) n n)) rfl (by kernel_rfl) (by kernel_rfl) (by kernel_rfl) (fun _ _ _ h => h) (.inl ⟨(wan_of rfl rfl rfl), fun w' hw' => ex_move (.tmp 13) (.slice (some ⟨ba, 0, none⟩) n n) rfl rfl⟩) h1 ?_
      refine (show wpAnyH _ _ _ _ _ _ _ (Act.put _ (some 162) _) _ from ?_)
      go_frame
      refine wpAnyH_take (i := 29) (v := (.slice (some ⟨bb, 0, none⟩) n n)) rfl (by kernel_rfl) (by kernel_rfl) (by kernel_rfl) (fun _ _ _ h => h) (.inl ⟨(wan_of rfl rfl rfl), fun w' hw' => ex_move (.tmp 15) (.slice (some ⟨bb, 0, none⟩) n n) rfl rfl⟩) h1 ?_
      refine (show wpAnyH _ _ _ _ _ _ _ (Act.put _ (some 164) _) _ from ?_)
      go_frame
      refine wpAnyH_take (i := 32) (v := (.slice (some ⟨bc, 0, none⟩) n n)) rfl (by kernel_rfl) (by kernel_rfl) (by kernel_rfl) (fun _ _ _ h => h) (.inl ⟨(wan_of rfl rfl rfl), fun w' hw' => ex_move (.tmp 17) (.slice (some ⟨bc, 0, none⟩) n n) rfl rfl⟩) h1 ?_
      refine (show wpAnyH _ _ _ _ _ _ _ (Act.put _ (some 167) _) _ from ?_)
      go_frame
      refine wpAnyH_take (i := 34) (v := (.slice (some ⟨bd, 0, none⟩) n n)) rfl (by kernel_rfl) (by kernel_rfl) (by kernel_rfl) (fun _ _ _ h => h) (.inl ⟨(wan_of rfl rfl rfl), fun w' hw' => ex_move (.tmp 19) (.slice (some ⟨bd, 0, none⟩) n n) rfl rfl⟩) h1 ?_
      refine (show wpAnyH _ _ _ _ _ _ _ (Act.put _ (some 169) _) _ from ?_)
      go_frame
      have W1 : IntKind.i64.wrap (tot (cnts n D) n + tot (cnts n E) n) = tot (cnts n D) n + tot (cnts n E) n := IntWalk.i64_in _ (by have := TT.out; omega)
      have W2 : IntKind.i64.wrap (tot (cnts n A) n + tot (cnts n I) n) = tot (cnts n A) n + tot (cnts n I) n := IntWalk.i64_in _ (by have := TT.out; omega)
      have W3 : IntKind.i64.wrap (tot (cnts n D) n + tot (cnts n C) n) = tot (cnts n D) n + tot (cnts n C) n := IntWalk.i64_in _ (by have := TT.out; omega)
      have W4 : IntKind.i64.wrap ((n : Int) * (n : Int)) = (n : Int) * (n : Int) := by rw [← E2.out]; exact W3
      refine wpAnyH_ready (rs := [28]) (by kernel_rfl) (by simp) ?_
      refine AllReadyH.cons (o := _) rfl (fun K hK => ?_) AllReadyH.nil
      rw [if_pos (wan_of rfl rfl rfl)]
      go_simp
      refine (sumRow ba n HH.out D _ Sba.out).mono ?_
      rintro e x28 ⟨rfl, rfl⟩
      refine hK.out _ _ rfl (fun _ => ?_)
      clear hK K
      refine wpAnyH_ready (rs := [30]) (by kernel_rfl) (by simp) ?_
      refine AllReadyH.cons (o := _) rfl (fun K hK => ?_) AllReadyH.nil
      rw [if_pos (wan_of rfl rfl rfl)]
      go_simp
      refine (sumRow bb n HH.out E _ Sbb.out).mono ?_
      rintro e x30 ⟨rfl, rfl⟩
      refine hK.out _ _ rfl (fun _ => ?_)
      clear hK K
      refine wpAnyH_take (i := 31) (v := (.int .i64 (tot (cnts n D) n + tot (cnts n E) n))) rfl (by kernel_rfl) (by kernel_rfl) (by kernel_rfl) (fun _ _ _ h => h) (.inl ⟨wan_of rfl rfl rfl, fun w' hw' => ex_add (.tmp 163) (.tmp 165) _ _ rfl rfl rfl W1⟩) h1 ?_
      refine (show wpAnyH _ _ _ _ _ _ _ (Act.put _ (some 166) _) _ from ?_)
      go_frame
      refine wpAnyH_ready (rs := [33]) (by kernel_rfl) (by simp) ?_
      refine AllReadyH.cons (o := _) rfl (fun K hK => ?_) AllReadyH.nil
      rw [if_pos (wan_of rfl rfl rfl)]
      go_simp
      refine (sumRow bc n HH.out A _ Sbc.out).mono ?_
      rintro e x33 ⟨rfl, rfl⟩
      refine hK.out _ _ rfl (fun _ => ?_)
      clear hK K
      refine wpAnyH_ready (rs := [35]) (by kernel_rfl) (by simp) ?_
      refine AllReadyH.cons (o := _) rfl (fun K hK => ?_) AllReadyH.nil
      rw [if_pos (wan_of rfl rfl rfl)]
      go_simp
      refine (sumRow bd n HH.out I _ Sbd.out).mono ?_
      rintro e x35 ⟨rfl, rfl⟩
      refine hK.out _ _ rfl (fun _ => ?_)
      clear hK K
      refine wpAnyH_take (i := 36) (v := (.int .i64 (tot (cnts n A) n + tot (cnts n I) n))) rfl (by kernel_rfl) (by kernel_rfl) (by kernel_rfl) (fun _ _ _ h => h) (.inl ⟨wan_of rfl rfl rfl, fun w' hw' => ex_add (.tmp 168) (.tmp 170) _ _ rfl rfl rfl W2⟩) h1 ?_
      refine (show wpAnyH _ _ _ _ _ _ _ (Act.put _ (some 171) _) _ from ?_)
      go_frame
      refine wpAnyH_take (i := 37) (v := (.bool false)) rfl (by kernel_rfl) (by kernel_rfl) (by kernel_rfl) (fun _ _ _ h => h) (.inl ⟨(wan_of rfl rfl rfl), fun w' hw' => ex_neqInt _ _ (.tmp 166) (.tmp 171) .i64 _ _ rfl rfl rfl E1.out⟩) h1 ?_
      refine (show wpAnyH _ _ _ _ _ _ _ (Act.put _ (some 172) _) _ from ?_)
      go_frame
      refine wpAnyH_take (i := 38) (v := (.bool false)) rfl (by kernel_rfl) (by kernel_rfl) (by kernel_rfl) (fun _ _ _ h => h) (.inl ⟨(wan_no rfl), fun w' hw' => ex_pick (.tmp 161) (.const (.bool true)) (.tmp 172) (.bool false) rfl rfl rfl⟩) h1 ?_
      refine (show wpAnyH _ _ _ _ _ _ _ (Act.put _ (some 173) _) _ from ?_)
      go_frame
      refine wpAnyH_take (i := 39) (v := (.bool false)) rfl (by kernel_rfl) (by kernel_rfl) (by kernel_rfl) (fun _ _ _ h => h) (.inl ⟨(wan_no rfl), fun w' hw' => ex_move (.tmp 173) (.bool false) rfl rfl⟩) h1 ?_
      refine (show wpAnyH _ _ _ _ _ _ _ (Act.put _ (some 174) _) _ from ?_)
      go_frame
      refine wpAnyH_take (i := 40) (v := (.slice (some ⟨ba, 0, none⟩) n n)) rfl (by kernel_rfl) (by kernel_rfl) (by kernel_rfl) (fun _ _ _ h => h) (.inl ⟨(wan_of rfl rfl rfl), fun w' hw' => ex_move (.tmp 13) (.slice (some ⟨ba, 0, none⟩) n n) rfl rfl⟩) h1 ?_
      refine (show wpAnyH _ _ _ _ _ _ _ (Act.put _ (some 175) _) _ from ?_)
      go_frame
      refine wpAnyH_take (i := 42) (v := (.slice (some ⟨be, 0, none⟩) n n)) rfl (by kernel_rfl) (by kernel_rfl) (by kernel_rfl) (fun _ _ _ h => h) (.inl ⟨(wan_of rfl rfl rfl), fun w' hw' => ex_move (.tmp 23) (.slice (some ⟨be, 0, none⟩) n n) rfl rfl⟩) h1 ?_
      refine (show wpAnyH _ _ _ _ _ _ _ (Act.put _ (some 177) _) _ from ?_)
      go_frame
      refine wpAnyH_take (i := 45) (v := (.pointer (some ⟨bD, 0, none⟩))) rfl (by kernel_rfl) (by kernel_rfl) (by kernel_rfl) (fun _ _ _ h => h) (.inl ⟨wan_of rfl rfl rfl, fun w' hw' => by go_simp⟩) h1 ?_
      refine (show wpAnyH _ _ _ _ _ _ _ (Act.put _ (some 180) _) _ from ?_)
      go_frame
      refine wpAnyH_take (i := 46) (v := (.int .i64 (n : Int))) rfl (by kernel_rfl) (by kernel_rfl) (by kernel_rfl) (fun _ _ _ h => h) (.inl ⟨wan_of rfl rfl rfl, fun w' hw' => by subst hw'; go_simp⟩) h1 ?_
      refine (show wpAnyH _ _ _ _ _ _ _ (Act.put _ (some 181) _) _ from ?_)
      go_frame
      refine wpAnyH_take (i := 47) (v := (.pointer (some ⟨bD, 0, none⟩))) rfl (by kernel_rfl) (by kernel_rfl) (by kernel_rfl) (fun _ _ _ h => h) (.inl ⟨wan_of rfl rfl rfl, fun w' hw' => by go_simp⟩) h1 ?_
      refine (show wpAnyH _ _ _ _ _ _ _ (Act.put _ (some 182) _) _ from ?_)
      go_frame
      refine wpAnyH_take (i := 48) (v := (.int .i64 (n : Int))) rfl (by kernel_rfl) (by kernel_rfl) (by kernel_rfl) (fun _ _ _ h => h) (.inl ⟨wan_of rfl rfl rfl, fun w' hw' => by subst hw'; go_simp⟩) h1 ?_
      refine (show wpAnyH _ _ _ _ _ _ _ (Act.put _ (some 183) _) _ from ?_)
      go_frame
      refine wpAnyH_take (i := 49) (v := (.int .i64 ((n : Int) * (n : Int)))) rfl (by kernel_rfl) (by kernel_rfl) (by kernel_rfl) (fun _ _ _ h => h) (.inl ⟨wan_of rfl rfl rfl, fun w' hw' => ex_mul (.tmp 181) (.tmp 183) _ _ rfl rfl rfl W4⟩) h1 ?_
      refine (show wpAnyH _ _ _ _ _ _ _ (Act.put _ (some 184) _) _ from ?_)
      go_frame
      refine wpAnyH_ready (rs := [41]) (by kernel_rfl) (by simp) ?_
      refine AllReadyH.cons (o := _) rfl (fun K hK => ?_) AllReadyH.nil
      rw [if_pos (wan_of rfl rfl rfl)]
      go_simp
      refine (sumRow ba n HH.out D _ Sba.out).mono ?_
      rintro e x41 ⟨rfl, rfl⟩
      refine hK.out _ _ rfl (fun _ => ?_)
      clear hK K
      refine wpAnyH_ready (rs := [43]) (by kernel_rfl) (by simp) ?_
      refine AllReadyH.cons (o := _) rfl (fun K hK => ?_) AllReadyH.nil
      rw [if_pos (wan_of rfl rfl rfl)]
      go_simp
      refine (sumRow be n HH.out C _ Sbe.out).mono ?_
      rintro e x43 ⟨rfl, rfl⟩
      refine hK.out _ _ rfl (fun _ => ?_)
      clear hK K
      refine wpAnyH_take (i := 44) (v := (.int .i64 (tot (cnts n D) n + tot (cnts n C) n))) rfl (by kernel_rfl) (by kernel_rfl) (by kernel_rfl) (fun _ _ _ h => h) (.inl ⟨wan_of rfl rfl rfl, fun w' hw' => ex_add (.tmp 176) (.tmp 178) _ _ rfl rfl rfl W3⟩) h1 ?_
      refine (show wpAnyH _ _ _ _ _ _ _ (Act.put _ (some 179) _) _ from ?_)
      go_frame
      refine wpAnyH_take (i := 50) (v := (.bool false)) rfl (by kernel_rfl) (by kernel_rfl) (by kernel_rfl) (fun _ _ _ h => h) (.inl ⟨(wan_of rfl rfl rfl), fun w' hw' => ex_neqInt _ _ (.tmp 179) (.tmp 184) .i64 _ _ rfl rfl rfl E2.out⟩) h1 ?_
      refine (show wpAnyH _ _ _ _ _ _ _ (Act.put _ (some 185) _) _ from ?_)
      go_frame
      refine wpAnyH_take (i := 51) (v := (.bool false)) rfl (by kernel_rfl) (by kernel_rfl) (by kernel_rfl) (fun _ _ _ h => h) (.inl ⟨(wan_no rfl), fun w' hw' => ex_pick (.tmp 174) (.const (.bool true)) (.tmp 185) (.bool false) rfl rfl rfl⟩) h1 ?_
      refine (show wpAnyH _ _ _ _ _ _ _ (Act.put _ (some 186) _) _ from ?_)
      go_frame
      refine wpAnyH_done (by kernel_rfl) ?_ _
      refine NoPanic.normal ?_
      go_wp2_with fail
      go_meet
      exact BB
    · go_wp2_with fail
      go_meet
      exact Lib.hid LL.out.2
    · go_wp2_with fail
      go_meet
      exact Lib.hid LL.out.2
  case rest => as_aux_lemma =>
  have B1 : Hid (Below w.heap.size w wc) := hcut
  clear hcut hcc HIA HII HID HIE LL HcD HcE
  go_wp2_with fail
  refine (dBehind_any ad len cap _ (HC.out.below B1.out)).mono ?_
  rintro e v20 ⟨s2, t2, D2, E2, rfl, hD2, hE2, b20⟩
  have HID2 : Hid ((Try.prog.info? 30).map (·.size) = some D2.size) := Lib.hid (by rw [hD2.1]; exact HS37.out)
  have HZD2 : Hid (Z.size = D2.size) := Lib.hid (by rw [hD2.1]; exact HZ37.out)
  have H1D2 := Lib.hid (wav_one hD2)
  have HIE2 : Hid ((Try.prog.info? 30).map (·.size) = some E2.size) := Lib.hid (by rw [hE2.1]; exact HS37.out)
  have HZE2 : Hid (Z.size = E2.size) := Lib.hid (by rw [hE2.1]; exact HZ37.out)
  have H1E2 := Lib.hid (wav_one hE2)
  obtain ⟨u6, c2, A2, hA2, hi2, hs2, hcc2⟩ := bothBeh s2 t2 D2 E2 hD2 hE2
  have HIA2 : Hid ((Try.prog.info? 30).map (·.size) = some A2.size) := Lib.hid (by rw [hA2.1]; exact HS37.out)
  have HZA2 : Hid (Z.size = A2.size) := Lib.hid (by rw [hA2.1]; exact HZ37.out)
  have H1A2 := Lib.hid (finW_one hA2)
  have ne2 : ∀ w, (binOp .neq 30 (.agg A2) (.agg A2)).run Try.prog w = .ok (.bool false) w := fun w => neq_self u6 A2 hA2 w
  have Hi2 := Lib.hid hi2
  have Hs2 := Lib.hid hs2
  clear hi2 hs2 hA2 hD2 hE2
  go_upto_region 20 with (first | (refine wpList_store_row rfl 30 (.tmp 25) (.tmp 190) rfl v20.heap.size D2 rfl rfl 30 Z (h2_0 _ _ _) HID2.out HZD2.out H1D2.out ?_; rw [setRow_al20]; go_frame) | (refine wpList_store_row rfl 30 (.tmp 26) (.tmp 191) rfl (v20.heap.size + 1) E2 rfl rfl 30 Z (h2_1 _ _ _) HIE2.out HZE2.out H1E2.out ?_; rw [setRow_al2]; go_frame))
  have L20 := Lib.hid (Lay.base (B1.out.trans (b20.mono B1.out.size)) (lay2 v20 D2 E2))
  clear b20 B1
  generalize (v20.alloc (.cells D2 30)).alloc (.cells E2 30) = v21 at *
  generalize v20.heap.size + 1 = bE2 at *
  generalize v20.heap.size = bD2 at *
  go_wp2_with (first | (refine wpList_load_row rfl 30 (.tmp 25) rfl bD2 rfl 30 D2 (0, 0) _ (L20.out.at 1 rfl) Try.underlying30 rfl HID2.out ?_; go_frame) | (refine wpList_load_row rfl 30 (.tmp 26) rfl bE2 rfl 30 E2 (0, 0) _ (L20.out.at 0 rfl) Try.underlying30 rfl HIE2.out ?_; go_frame))
  refine (Hi2.out _).mono ?_
  rintro e w21 ⟨rfl, b21⟩
  have L21 := Lib.hid ((L20.out.below b21).push A2)
  clear b21 L20
  go_upto_region 21 with (refine wpList_store_row rfl 30 (.tmp 27) (.tmp 196) rfl w21.heap.size A2 rfl rfl 30 Z (h1_0 _ _) HIA2.out HZA2.out H1A2.out ?_; rw [World.setRow_alloc_new]; go_frame)
  generalize w21.heap.size = bA2 at *
  generalize w21.alloc (.cells A2 30) = v22 at *
  go_wp2_with (first | (refine wpList_load_row rfl 30 (.tmp 25) rfl bD2 rfl 30 D2 (0, 0) _ (L21.out.at 2 rfl) Try.underlying30 rfl HID2.out ?_; go_frame) | (refine wpList_load_row rfl 30 (.tmp 26) rfl bE2 rfl 30 E2 (0, 0) _ (L21.out.at 1 rfl) Try.underlying30 rfl HIE2.out ?_; go_frame))
  refine (Hs2.out _).mono ?_
  rintro e w22 ⟨rfl, b22⟩
  have L22 := Lib.hid ((L21.out.below b22).push A2)
  clear b22 L21
  go_upto_region 22 with (refine wpList_store_row rfl 30 (.tmp 29) (.tmp 202) rfl w22.heap.size A2 rfl rfl 30 Z (h1_0 _ _) HIA2.out HZA2.out H1A2.out ?_; rw [World.setRow_alloc_new]; go_frame)
  generalize w22.heap.size = bS2 at *
  generalize w22.alloc (.cells A2 30) = v23 at *
  go_upto_if 213 with (first | (refine wpList_load_row_g rfl 30 (.tmp 27) rfl bA2 rfl 30 A2 (0, 0) _ (L22.out.at 1 rfl) Try.underlying30 rfl HIA2.out ?_; go_frame) | (refine wpList_load_row_g rfl 30 (.tmp 29) rfl bS2 rfl 30 A2 (0, 0) _ (L22.out.at 0 rfl) Try.underlying30 rfl HIA2.out ?_; go_frame))
  clear ne2 Hi2 Hs2
  go_cut [] (fun wx => Hid (Below w.heap.size w wx))
  case first => as_aux_lemma =>
    rcases hcc2 with ⟨rfl, hon⟩ | rfl | rfl
    · obtain ⟨u7, u8, u9, C3, A3, G3, hC3, hA3, hG3, i3, j3, k3, n3⟩ := hon
      have HIC3 : Hid ((Try.prog.info? 30).map (·.size) = some C3.size) := Lib.hid (by rw [hC3.1]; exact HS37.out)
      have HZC3 : Hid (Z.size = C3.size) := Lib.hid (by rw [hC3.1]; exact HZ37.out)
      have H1C3 := Lib.hid (finW_one hC3)
      have HIA3 : Hid ((Try.prog.info? 30).map (·.size) = some A3.size) := Lib.hid (by rw [hA3.1]; exact HS37.out)
      have HZA3 : Hid (Z.size = A3.size) := Lib.hid (by rw [hA3.1]; exact HZ37.out)
      have H1A3 := Lib.hid (finW_one hA3)
      have HIG3 : Hid ((Try.prog.info? 30).map (·.size) = some G3.size) := Lib.hid (by rw [hG3.1]; exact HS37.out)
      have HZG3 : Hid (Z.size = G3.size) := Lib.hid (by rw [hG3.1]; exact HZ37.out)
      have H1G3 := Lib.hid (finW_one hG3)
      have Hi3 := Lib.hid i3
      have Hj3 := Lib.hid j3
      have Hk3 := Lib.hid k3
      clear i3 j3 k3 hC3 hA3 hG3
      go_wp2_with (refine wpList_load_row rfl 30 (.tmp 26) rfl bE2 rfl 30 E2 (0, 0) _ (L22.out.at 2 rfl) Try.underlying30 rfl HIE2.out ?_; go_frame)
      refine (Hi3.out _).mono ?_
      rintro e w23 ⟨rfl, b23⟩
      have L23 := Lib.hid ((L22.out.below b23).push C3)
      clear b23 L22
      go_upto_region 26 with (refine wpList_store_row rfl 30 (.tmp 31) (.tmp 217) rfl w23.heap.size C3 rfl rfl 30 Z (h1_0 _ _) HIC3.out HZC3.out H1C3.out ?_; rw [World.setRow_alloc_new]; go_frame)
      generalize w23.heap.size = bC3 at *
      generalize w23.alloc (.cells C3 30) = v24 at *
      go_wp2_with (first | (refine wpList_load_row rfl 30 (.tmp 25) rfl bD2 rfl 30 D2 (0, 0) _ (L23.out.at 4 rfl) Try.underlying30 rfl HID2.out ?_; go_frame) | (refine wpList_load_row rfl 30 (.tmp 31) rfl bC3 rfl 30 C3 (0, 0) _ (L23.out.at 0 rfl) Try.underlying30 rfl HIC3.out ?_; go_frame))
      refine (Hj3.out _).mono ?_
      rintro e w24 ⟨rfl, b24⟩
      have L24 := Lib.hid ((L23.out.below b24).push A3)
      clear b24 L23
      go_upto_region 27 with (refine wpList_store_row rfl 30 (.tmp 33) (.tmp 223) rfl w24.heap.size A3 rfl rfl 30 Z (h1_0 _ _) HIA3.out HZA3.out H1A3.out ?_; rw [World.setRow_alloc_new]; go_frame)
      generalize w24.heap.size = bA3 at *
      generalize w24.alloc (.cells A3 30) = v25 at *
      go_wp2_with (first | (refine wpList_load_row rfl 30 (.tmp 27) rfl bA2 rfl 30 A2 (0, 0) _ (L24.out.at 3 rfl) Try.underlying30 rfl HIA2.out ?_; go_frame) | (refine wpList_load_row rfl 30 (.tmp 33) rfl bA3 rfl 30 A3 (0, 0) _ (L24.out.at 0 rfl) Try.underlying30 rfl HIA3.out ?_; go_frame))
      refine (Hk3.out _).mono ?_
      rintro e w25 ⟨rfl, b25⟩
      have L25 := Lib.hid ((L24.out.below b25).push G3)
      clear b25 L24
      go_upto_region 28 with (refine wpList_store_row rfl 30 (.tmp 35) (.tmp 229) rfl w25.heap.size G3 rfl rfl 30 Z (h1_0 _ _) HIG3.out HZG3.out H1G3.out ?_; rw [World.setRow_alloc_new]; go_frame)
      generalize w25.heap.size = bG3 at *
      generalize w25.alloc (.cells G3 30) = v26 at *
      go_wp2_with (first | (refine wpList_load_row_g rfl 30 (.tmp 35) rfl bG3 rfl 30 G3 (0, 0) _ (L25.out.at 0 rfl) Try.underlying30 rfl HIG3.out ?_; go_frame) | (refine wpList_load_row_g rfl 30 (.tmp 25) rfl bD2 rfl 30 D2 (0, 0) _ (L25.out.at 6 rfl) Try.underlying30 rfl HID2.out ?_; go_frame))
      go_meet
      exact Lib.hid L25.out.2
    · go_wp2_with fail
      go_meet
      exact Lib.hid L22.out.2
    · go_wp2_with fail
      go_meet
      exact Lib.hid L22.out.2
  case rest => as_aux_lemma =>
  have B2 : Hid (Below w.heap.size w wc) := hcut
  clear hcut hcc2 HIA2 HZA2 H1A2 HID2 HZD2 H1D2 HIE2 HZE2 H1E2 L22
  go_wp2_with fail
  refine (dDrawComplementOf_any ad len cap _ (HC.out.below B2.out)).mono ?_
  rintro e v30 ⟨s4, D4, rfl, hD4, b30⟩
  have HID4 : Hid ((Try.prog.info? 30).map (·.size) = some D4.size) := Lib.hid (by rw [hD4.1]; exact HS37.out)
  have HZD4 : Hid (Z.size = D4.size) := Lib.hid (by rw [hD4.1]; exact HZ37.out)
  have H1D4 := Lib.hid (wav_one hD4)
  obtain ⟨u10, A4, B4, c4, hA4, hB4, hi4, hs4, eq4, _⟩ := bothComp s4 D4 hD4
  have HIA4 : Hid ((Try.prog.info? 30).map (·.size) = some A4.size) := Lib.hid (by rw [hA4.1]; exact HS37.out)
  have HZA4 : Hid (Z.size = A4.size) := Lib.hid (by rw [hA4.1]; exact HZ37.out)
  have H1A4 := Lib.hid (finW_one hA4)
  have HIB4 : Hid ((Try.prog.info? 30).map (·.size) = some B4.size) := Lib.hid (by rw [hB4.1]; exact HS37.out)
  have HZB4 : Hid (Z.size = B4.size) := Lib.hid (by rw [hB4.1]; exact HZ37.out)
  have H1B4 := Lib.hid (wav_one hB4)
  have Hi4 := Lib.hid hi4
  have Hs4 := Lib.hid hs4
  clear hi4 hs4 hA4 hB4 hD4
  go_upto_region 31 with (refine wpList_store_row rfl 30 (.tmp 37) (.tmp 247) rfl v30.heap.size D4 rfl rfl 30 Z (h1_0 _ _) HID4.out HZD4.out H1D4.out ?_; rw [World.setRow_alloc_new]; go_frame)
  have L30 := Lib.hid (Lay.base (B2.out.trans (b30.mono B2.out.size)) (lay1 v30 D4))
  clear b30 B2
  generalize v30.alloc (.cells D4 30) = v31 at *
  generalize v30.heap.size = bD4 at *
  go_wp2_with (refine wpList_load_row rfl 30 (.tmp 37) rfl bD4 rfl 30 D4 (0, 0) _ (L30.out.at 0 rfl) Try.underlying30 rfl HID4.out ?_; go_frame)
  refine (Hi4.out _).mono ?_
  rintro e w31 ⟨rfl, b31⟩
  have L31 := Lib.hid ((L30.out.below b31).push A4)
  clear b31 L30
  go_upto_region 32 with (refine wpList_store_row rfl 30 (.tmp 38) (.tmp 251) rfl w31.heap.size A4 rfl rfl 30 Z (h1_0 _ _) HIA4.out HZA4.out H1A4.out ?_; rw [World.setRow_alloc_new]; go_frame)
  generalize w31.heap.size = bA4 at *
  generalize w31.alloc (.cells A4 30) = v32 at *
  go_wp2_with (refine wpList_load_row rfl 30 (.tmp 37) rfl bD4 rfl 30 D4 (0, 0) _ (L31.out.at 1 rfl) Try.underlying30 rfl HID4.out ?_; go_frame)
  refine (Hs4.out _).mono ?_
  rintro e w32 ⟨rfl, b32⟩
  have L32 := Lib.hid ((L31.out.below b32).push B4)
  clear b32 L31
  go_upto_region 33 with (refine wpList_store_row rfl 30 (.tmp 40) (.tmp 256) rfl w32.heap.size B4 rfl rfl 30 Z (h1_0 _ _) HIB4.out HZB4.out H1B4.out ?_; rw [World.setRow_alloc_new]; go_frame)
  generalize w32.heap.size = bB4 at *
  generalize w32.alloc (.cells B4 30) = v33 at *
  go_wp2_with fail
  refine (dDrawOpenCells_any ad len cap _ (HC.out.below L32.out.2)).mono ?_
  rintro e v35 ⟨s5, D5, rfl, hD5, b35⟩
  have HID5 : Hid ((Try.prog.info? 30).map (·.size) = some D5.size) := Lib.hid (by rw [hD5.1]; exact HS37.out)
  have HZD5 : Hid (Z.size = D5.size) := Lib.hid (by rw [hD5.1]; exact HZ37.out)
  have H1D5 := Lib.hid (wav_one hD5)
  go_upto_region 34 with (refine wpList_store_row rfl 30 (.tmp 42) (.tmp 259) rfl v35.heap.size D5 rfl rfl 30 Z (h1_0 _ _) HID5.out HZD5.out H1D5.out ?_; rw [World.setRow_alloc_new]; go_frame)
  have L35 := Lib.hid ((L32.out.below b35).push D5)
  clear b35 L32
  generalize v35.alloc (.cells D5 30) = v36 at *
  generalize v35.heap.size = bD5 at *
  cases h5 : isMsk s5 D5
  · have O1 := Lib.hid (implOpen_no s5 D5 hD5 h5)
    have O2 := Lib.hid (specOpen_no s5 D5 hD5 h5)
    clear hD5 h5
    go_wp2_with (refine wpList_load_row rfl 30 (.tmp 42) rfl bD5 rfl 30 D5 (0, 0) _ (L35.out.at 0 rfl) Try.underlying30 rfl HID5.out ?_; go_frame)
    refine (O1.out _).mono ?_
    rintro e w35 ⟨rfl, b35⟩
    have L36 := Lib.hid (L35.out.below b35)
    clear b35 L35 O1
    go_wp2_with (refine wpList_load_row rfl 30 (.tmp 42) rfl bD5 rfl 30 D5 (0, 0) _ (L36.out.at 0 rfl) Try.underlying30 rfl HID5.out ?_; go_frame)
    refine (O2.out _).mono ?_
    rintro e w36 ⟨rfl, b36⟩
    have L37 := Lib.hid (L36.out.below b36)
    clear b36 L36 O2
    go_wp2_with (first | (refine wpList_load_row_g rfl 30 (.tmp 38) rfl bA4 rfl 30 A4 (0, 0) _ (L37.out.at 2 rfl) Try.underlying30 rfl HIA4.out ?_; go_frame) | (refine wpList_load_row_g rfl 30 (.tmp 40) rfl bB4 rfl 30 B4 (0, 0) _ (L37.out.at 1 rfl) Try.underlying30 rfl HIB4.out ?_; go_frame))
    refine (like_none _).mono ?_
    rintro e w37 ⟨rfl, b37⟩
    go_wp2_with fail
    go_ret
    exact ⟨rfl, (L37.out.below b37).2⟩
  · obtain ⟨_, _, hs5⟩ := isMsk_parts s5 D5 h5
    obtain ⟨n5, rfl⟩ : ∃ n : Nat, s5 = n := ⟨s5.toNat, by rcases side_yes s5 hs5 with e | e | e | e <;> omega⟩
    have hn5 : n5 ≤ 8 := by rcases side_nat n5 hs5 with rfl | rfl | rfl | rfl <;> omega
    have O1 := Lib.hid (opens_of n5 hs5 D5 hD5 h5)
    have O2 := Lib.hid (specOpens n5 hs5 D5 hD5 h5)
    clear hD5 h5 hs5
    go_wp2_with (refine wpList_load_row rfl 30 (.tmp 42) rfl bD5 rfl 30 D5 (0, 0) _ (L35.out.at 0 rfl) Try.underlying30 rfl HID5.out ?_; go_frame)
    refine (O1.out _).mono ?_
    rintro e w35 ⟨ba, rfl, b35, ra⟩
    have L36 := Lib.hid (L35.out.below b35)
    have RA := Lib.hid ra
    clear b35 L35 O1 ra
    go_wp2_with (refine wpList_load_row rfl 30 (.tmp 42) rfl bD5 rfl 30 D5 (0, 0) _ (L36.out.at 0 rfl) Try.underlying30 rfl HID5.out ?_; go_frame)
    refine (O2.out _).mono ?_
    rintro e w36 ⟨bb, rfl, b36, rb⟩
    have L37 := Lib.hid (L36.out.below b36)
    have HL := Lib.hid (like_same ba bb n5 n5 n5 (cnts n5 D5) w36 hn5 (RA.out.below b36).2 rb.2)
    clear b36 L36 O2 rb RA
    go_wp2_with (first | (refine wpList_load_row_g rfl 30 (.tmp 38) rfl bA4 rfl 30 A4 (0, 0) _ (L37.out.at 2 rfl) Try.underlying30 rfl HIA4.out ?_; go_frame) | (refine wpList_load_row_g rfl 30 (.tmp 40) rfl bB4 rfl 30 B4 (0, 0) _ (L37.out.at 1 rfl) Try.underlying30 rfl HIB4.out ?_; go_frame))
    refine HL.out.mono ?_
    rintro e w37 ⟨rfl, b37⟩
    go_wp2_with fail
    go_ret
    exact ⟨rfl, (L37.out.below b37).2⟩
end Go.Proofs.Ytjmfffgddmnkmab
