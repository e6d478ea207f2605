/- Shadows and decoded lists: what they are; the model's code of such a list; a list that is appended to beside another one. Condition: none. The model's CorrelateLists: the list and the code. Condition: as many numbers as a law lets in. The model's sums by codes back, whole: the list and the code. Condition: as many numbers as a law lets in. Ranges over the program's own iterator, and the lists and sums that are made of them. Condition: none. -/
import Derived.Test.YtclflnpbiiimiaaDoorM18
import Derived.Test.YtclflnpbiiimiaaDoorM14
import Derived.Test.YtclflnpbiiimiaaDoorM17
import Derived.RangeFuncBox
import Derived.RangeFuncLeaves
import Derived.RangeFuncBound
import Derived.RangeFuncCalls
import Derived.WalkKit
import Derived.OwnWalkIn
import Derived.TacticsInMore
import Derived.LoopNIn
import Derived.LoopIn
namespace Go.Proofs.YtclflnpbiiimiaaDoor
open Go Go.RowKit Ieee

/-- the mask of a code -/
def mk (c : Nat) : Nat := if c = plusOne then plusOne else 0
theorem leg_two (p j : Nat) : leg p j = plusOne ∨ leg p j = minusOne := legTo_two p j p
theorem leg_fin (p j : Nat) : fin (leg p j) = true := by rcases leg_two p j with h | h <;> rw [h] <;> decide
theorem mk_fin (c : Nat) : fin (mk c) = true := by unfold mk; split <;> decide
theorem run_max_leg (p j : Nat) (ts : Array TypeId) (t : TypeId) (w : World) : (Builtin.max_ ts t #[.float .f32 (leg p j), .float .f32 0]).run Tryd.prog w = .ok (.float .f32 (mk (leg p j))) w := by
  rcases leg_two p j with h | h <;> rw [h]
  · rfl
  · rfl

/-- the product j of the shadow at k, and of the decoded list -/
def shF (A : List Nat) (k : Nat) : Nat → Nat := fun j => mulF (A.getD j 0) (mk (leg A.length ((k + A.length - j) % A.length)))
def sha (A : List Nat) : Option (List Nat) := rowsTo (fun k => accTo (shF A k) A.length) A.length
def dcF (A : List Nat) (k : Nat) : Nat → Nat := fun j => mulF (A.getD j 0) (leg A.length ((j + A.length - k) % A.length))
def half (n : Nat) : Nat := fl32 ((n + 1) / 2)
def dec (A : List Nat) : Option (List Nat) := rowsTo (fun k => (accTo (dcF A k) A.length).map (fun s => divS s (half A.length))) A.length
/-- the code of a list whose length is to be one of the primes -/
def scC (A : List Nat) : Int := if A.all fin = false then 1 else if prI (A.length : Int) = false then 2 else 0
def shCode (A : List Nat) : Int := if scC A = 0 then ansC (sha A) else scC A
def shList (A : List Nat) : List Nat := if scC A = 0 then ansL (sha A) else []
def dcCode (A : List Nat) : Int := if scC A = 0 then ansC (dec A) else scC A
def dcList (A : List Nat) : List Nat := if scC A = 0 then ansL (dec A) else []
theorem sc_zero {A : List Nat} (h : scC A = 0) : A.all fin = true ∧ prI (A.length : Int) = true := by
  unfold scC at h
  cases hf : A.all fin
  · rw [if_pos hf] at h; cases h
  · rw [if_neg (by rw [hf]; decide)] at h
    cases hp : prI (A.length : Int)
    · rw [if_pos hp] at h; cases h
    · exact ⟨rfl, rfl⟩
theorem pr_len {n : Nat} (h : prI (n : Int) = true) : 3 ≤ n ∧ n ≤ 31 := by rcases prI_yes h with e | e | e | e | e | e <;> omega
theorem rows_small (A : List Nat) (F : Nat → Option Nat) (h : scC A = 0) : (ansL (rowsTo F A.length)).length ≤ 31 := by
  have := (pr_len (sc_zero h).2).2
  unfold ansL
  cases hc : rowsTo F A.length with
  | none => simp
  | some R => have := rows_len hc; simp; omega
theorem sh_len (A : List Nat) : (shList A).length ≤ 31 := by
  unfold shList
  split
  · exact rows_small A _ (by assumption)
  · simp
theorem dc_len (A : List Nat) : (dcList A).length ≤ 31 := by
  unfold dcList
  split
  · exact rows_small A _ (by assumption)
  · simp
theorem half_any {n : Nat} (h : prI (n : Int) = true) : fin (half n) = true ∧ gtz (half n) = true := by
  rcases prI_yes h with e | e | e | e | e | e
  · obtain rfl : n = 3 := by omega
    decide +kernel
  · obtain rfl : n = 7 := by omega
    decide +kernel
  · obtain rfl : n = 11 := by omega
    decide +kernel
  · obtain rfl : n = 19 := by omega
    decide +kernel
  · obtain rfl : n = 23 := by omega
    decide +kernel
  · obtain rfl : n = 31 := by omega
    decide +kernel
theorem div_half (x n : Nat) (hx : fin x = true) (h : prI (n : Int) = true) : single.div x (half n) = some (divS x (half n)) := by
  obtain ⟨r, hr, _⟩ := div_num x (half n) (notnan_fin x hx) (half_any h).1 (half_any h).2
  unfold divS
  rw [hr]
  rfl

/-- a list stays where its block does -/
theorem OwnF.same {B g n c : Nat} {L : List Nat} {w w' : World} (h : OwnF B (.slice (some ⟨g, 0, none⟩) n c) L w) (k : w'.heap[g]? = w.heap[g]?) : OwnF B (.slice (some ⟨g, 0, none⟩) n c) L w' := by
  refine ⟨h.1, ?_⟩
  rcases h.2 with ⟨hv, _⟩ | ⟨g', cap, cur, hv, hb, hg, r⟩
  · cases hv
  · cases hv
    exact .inr ⟨g, c, cur, rfl, hb, by rw [k]; exact hg, r⟩
/-- a number is appended; a block that is not the list's own stays as it was -/
theorem wpList_pushG {ops : Array Oper} {rest : List Oper} {o : Oper} {a : Act} {Q : Exit → Act → World → Prop} {w : World} (hgd : o.guard = none) (s x : Operand)
    (ho : o.op = .call { callee := .builtin .append, args := #[s, x], argTypes := #[26, 26] }) (B : Nat) (v : Value) (L : List Nat) (y : Nat)
    (hs : a.eval s = v) (hx : a.eval x = .slice (some ⟨w.heap.size, 0, none⟩) 1 1) (hO : OwnF B v L w) (hL : L.length ≤ 1048576) (hB : B ≤ w.heap.size)
    (h : ∀ v' w', OwnF B v' (L ++ [y]) w' → Below B w w' → (∀ g, g < w.heap.size → v.ownBlock ≠ some g → w'.heap[g]? = w.heap[g]? ∧ v'.ownBlock ≠ some g) → wpList Tryd.prog ops Q rest (a.put o.dst v') w') : wpList Tryd.prog ops Q (o :: rest) a (w.alloc (.cells #[.float .f32 y] 38)) := by
  refine wpList_plain hgd fun _ hK => ?_
  obtain ⟨i0, hi, hz0, hz1, hz2⟩ := info_parts infoF
  have hy : (w.alloc (.cells #[.float .f32 y] 38)).cell? ⟨w.heap.size, 0, none⟩ = some (.float .f32 y) := World.cell?_alloc_at _ _ _ _ rfl
  obtain ⟨v', w', hr, hown, hgrow, _, hblk⟩ := run_append_own_at (P := Tryd.prog) (w.alloc (.cells #[.float .f32 y] 38)) B 26 o.type 38 i0 (.float .f32 0) 1 4 Tryd.underlying26 hi hz0 hz1 hz2 rfl (by decide) v L.length (L.map (Value.float .f32)) (hO.alloc _) ⟨w.heap.size, 0, none⟩ 1 1 [.float .f32 y] rfl (by
    intro j u hj
    match j, hj with
    | 0, hj =>
      simp at hj; subst hj
      rw [Addr.add_mid]
      exact hy) (by intro u hu; simp at hu; subst hu; rfl) (by unfold maxLen; omega) (by omega) (by rw [World.size_alloc]; omega)
  unfold Oper.wp execOp
  simp only [ho, resolve, invoke, builtin, Sem.run_bind, Sem.run_pure, Result.andThen_ok, List.map_toArray, List.map_cons, List.map_nil, hs, hx, hr]
  refine hK _ _ (h v' w' ?_ ?_ ?_)
  · unfold OwnF
    rw [List.length_append, List.map_append]
    exact hown
  · exact ((Below.refl B w).alloc hB _).grown hgrow (by rw [World.size_alloc]; omega) (fun j hj => (World.ownsRow.lt hO j hj).1)
  · intro g hg hne
    refine ⟨(hgrow.block g (by rw [World.size_alloc]; omega) (fun e => hne e.symm)).trans (heap_alloc_old _ _ hg), fun e => ?_⟩
    rcases hblk with h1 | h1
    · exact hne (by rw [← h1, e])
    · rw [h1] at e
      injection e with e
      rw [World.size_alloc] at e
      omega

end Go.Proofs.YtclflnpbiiimiaaDoor

namespace Go.Proofs.YtclflnpbiiimiaaDoor
open Go Go.RowKit Ieee

theorem clOk_no {A B : List Nat} (h : clOk A B = false) (he : A.length = B.length) : (decide ((1 : Int) ≤ (A.length : Int)) && decide ((A.length : Int) ≤ 64)) = false := by
  unfold clOk at h
  rw [decide_eq_true he, Bool.true_and] at h
  cases hd : (decide ((1 : Int) ≤ (A.length : Int)) && decide ((A.length : Int) ≤ 64))
  · rfl
  · simp only [Bool.and_eq_true, decide_eq_true_eq] at hd
    simp only [Bool.and_eq_false_iff, decide_eq_false_iff_not] at h
    omega
theorem clOk_yes {A B : List Nat} (h : clOk A B = true) : A.length = B.length ∧ 1 ≤ A.length ∧ A.length ≤ 64 ∧ (decide ((1 : Int) ≤ (A.length : Int)) && decide ((A.length : Int) ≤ 64)) = true := by
  unfold clOk at h
  simp only [Bool.and_eq_true, decide_eq_true_eq] at h
  refine ⟨h.1, h.2.1, h.2.2, ?_⟩
  simp only [Bool.and_eq_true, decide_eq_true_eq]
  omega

end Go.Proofs.YtclflnpbiiimiaaDoor

namespace Go.Proofs.YtclflnpbiiimiaaDoor
open Go Go.RowKit Ieee

/-- the first k numbers by f -/
def bpre (M : List Nat) (f : Nat → Nat) (k : Nat) : List Nat := (M.take k).map f ++ M.drop k
theorem bpre_len (M : List Nat) (f : Nat → Nat) (k : Nat) (h : k ≤ M.length) : (bpre M f k).length = M.length := by
  unfold bpre; rw [List.length_append, List.length_map, List.length_take, List.length_drop]; omega
theorem bpre_zero (M : List Nat) (f : Nat → Nat) : bpre M f 0 = M := by simp [bpre]
theorem bpre_all (M : List Nat) (f : Nat → Nat) : bpre M f M.length = M.map f := by simp [bpre]
theorem bpre_old (M : List Nat) (f : Nat → Nat) (k : Nat) (h : k < M.length) : (bpre M f k).getD k 0 = M.getD k 0 := by
  unfold bpre
  rw [List.getD_eq_getElem?_getD, List.getElem?_append_right (by rw [List.length_map, List.length_take]; omega), List.length_map, List.length_take, Nat.min_eq_left (by omega), Nat.sub_self, List.getElem?_drop, Nat.add_zero, ← List.getD_eq_getElem?_getD]
theorem bpre_set (M : List Nat) (f : Nat → Nat) (k : Nat) (h : k < M.length) : (bpre M f k).set k (f (M.getD k 0)) = bpre M f (k + 1) := by
  unfold bpre
  have hl : ((M.take k).map f).length = k := by rw [List.length_map, List.length_take]; omega
  rw [List.set_append_right _ _ (by omega), hl, Nat.sub_self, List.drop_eq_getElem_cons h, List.set_cons_zero, take_succ_getDF M k h, List.map_append, List.append_assoc]
  rfl

set_option maxRecDepth 100000 in
set_option maxHeartbeats 1600000 in
theorem l10Back_any (ad : Option Addr) (n cap : Nat) (L : List Nat) (w : World) (h : CameF ad n L w) (hn : lenI (n : Int) = true) (hf : L.all fin = true) :
    Calls Tryd.prog 49 #[.slice ad n cap] w fun e w' => ∃ r, e = .returned (.tuple #[r, .int .i64 (sbCode L)]) ∧ OwnF w.heap.size r (bkList L) w' ∧ Below w.heap.size w w' := by
  have HT := Lib.hid (told_any ad n cap L w h hn hf)
  have hl := h.1
  have hn64 : 1 ≤ n ∧ n ≤ 64 := by rcases lenI_yes hn with e | e | e | e | e | e | e <;> omega
  cases ho : okRnd L (lg L.length)
  · obtain ⟨e1, e2, e3⟩ := sb_lim hf (by rw [hl]; exact hn) ho
    rw [e3]
    rw [e1, e2] at HT
    rw [e1]
    clear h hn hf hl ho e1 e2 e3
    go_enter Tryd.func49, Tryd.ntmps49
    go_wp2_with fail
    refine HT.out.mono ?_
    rintro e w2 ⟨v, r, c, rfl, rfl, B2, hcall⟩
    have HCALL := Lib.hid hcall
    clear hcall B2
    go_wp2_with fail
    refine HCALL.out.mono ?_
    rintro e w3 ⟨rfl, O3, B3⟩
    have BB := Lib.hid B3
    obtain ⟨ad, cp, e0, _⟩ := O3.came
    subst e0
    clear O3 B3
    go_wp2_with fail
    go_ret2
    exact ⟨_, rfl, OwnF.zero _ _, BB.out⟩
  · obtain ⟨e1, e2, e3⟩ := sb_yes hf (by rw [hl]; exact hn) ho
    rw [e3]
    rw [e1, e2] at HT
    rw [e1]
    have HMF := Lib.hid (okRnd_last ho)
    have hml : (rnds L (lg L.length)).length = n := by rw [rnds_len, hl]
    rw [hl] at HT HMF hml ⊢
    have HDV := Lib.hid (fun x hx => divS_some x n hx hn)
    generalize rnds L (lg n) = M at *
    have HML := Lib.hid hml
    clear h hn hf hl ho e1 e2 e3 hml
    go_enter Tryd.func49, Tryd.ntmps49
    go_wp2_with fail
    refine HT.out.mono ?_
    rintro e w2 ⟨v, r, c, rfl, rfl, B2, hcall⟩
    have HCALL := Lib.hid hcall
    clear hcall B2
    go_wp2_with fail
    refine HCALL.out.mono ?_
    rintro e w3 ⟨rfl, O3, B3⟩
    have BB := Lib.hid B3
    obtain ⟨g, cp, rfl, hg, _⟩ := O3.form (by rw [HML.out]; omega)
    have OO : Hid (OwnF w.heap.size (.slice (some ⟨g, 0, none⟩) M.length cp) (bpre M (fun x => divS x (fl32 n)) 0) w3) := Lib.hid (by rw [bpre_zero]; exact O3)
    rw [HML.out] at OO ⊢
    have HG := Lib.hid hg
    clear O3 B3 hg HT HCALL
    go_wp2_with fail
    go_loopw [6] (fun i wr => ∃ k : Nat, k ≤ n ∧ i = .int .i64 k ∧ Hid (OwnF w.heap.size (.slice (some ⟨g, 0, none⟩) n cp) (bpre M (fun x => divS x (fl32 n)) k) wr) ∧ Hid (Below w.heap.size w wr)) (fun i _ => n - (intOf i).toNat)
    case atStart => exact ⟨0, by omega, rfl, OO, BB⟩
    case round =>
      clear OO BB
      obtain ⟨k, hk, rfl, O, B⟩ := hrel
      by_cases hlt : k < n
      · have hdk : decide ((k : Int) < (n : Int)) = true := by simp; omega
        have hkM : k < M.length := by rw [HML.out]; exact hlt
        have hbl := bpre_len M (fun x => divS x (fl32 n)) k (by omega)
        rw [HML.out] at hbl
        have o3 : OwnF w.heap.size (.slice (some ⟨g, 0, none⟩) (bpre M (fun x => divS x (fl32 n)) k).length cp) (bpre M (fun x => divS x (fl32 n)) k) wr := by rw [hbl]; exact O.out
        have c1 := o3.cell k (by omega)
        have f1 := o3.free k
        rw [bpre_old M _ k hkM] at c1
        have hd := HDV.out (M.getD k 0) (all_at HMF.out k hkM)
        have O5 := o3.stored k (divS (M.getD k 0) (fl32 n))
        rw [bpre_set M (fun x => divS x (fl32 n)) k hkM, hbl] at O5
        have OO := Lib.hid O5
        have BB : Hid (Below w.heap.size w (wr.setCell ⟨g, k, none⟩ (.float .f32 (divS (M.getD k 0) (fl32 n))))) := Lib.hid (B.out.setCell (p := ⟨g, k, none⟩) HG.out _)
        generalize M.getD k 0 = x at *
        have h1 := fun w => run_float_arith (P := Tryd.prog) w .quo 38 .f32 x (fl32 n) (divS x (fl32 n)) hd
        generalize hZ : divS x (fl32 n) = z at *
        have h2 : ∀ w, (binOp .quo 38 (.float .f32 x) (.float .f32 (floatOfInt .f32 (n : Int)))).run Tryd.prog w = .ok (.float .f32 z) w := h1
        clear o3 O5 hd hkM hbl h1 hZ
        go_wp2_with fail
        exact ⟨⟨k + 1, by omega, by go_num, OO, BB⟩, by simp [intOf]; omega⟩
      · obtain rfl : k = n := by omega
        have O3 : Hid (OwnF w.heap.size (.slice (some ⟨g, 0, none⟩) k cp) (M.map (fun x => divS x (fl32 k))) wr) := Lib.hid (by
          have := O.out
          rw [← HML.out, bpre_all, HML.out] at this
          exact this)
        go_wp2_with fail
        go_ret2
        exact ⟨_, rfl, O3.out, B.out⟩

set_option maxRecDepth 100000 in
set_option maxHeartbeats 800000 in
theorem specBk (L : List Nat) : ListsF 15 L (bkList L) (sbCode L) := by
  intro hn v w hO
  obtain ⟨a, cap, rfl, hC⟩ := hO.came
  have HC := Lib.hid hC
  have HN := Lib.hid hn
  clear hO hC
  cases hf : L.all fin
  · have HF : Hid (Calls Tryd.prog 46 #[.slice a L.length cap] w fun e w' => e = .returned (.bool false) ∧ ∃ d, w' = w.drewN d) := Lib.hid (by rw [← hf]; exact l10Fine_any a L.length cap L w HC.out HN.out)
    rw [(sb_nan hf).1, (sb_nan hf).2.2]
    clear hf HC HN hn
    generalize L.length = n at *
    go_enter Tryd.func15, Tryd.ntmps15
    go_wp2_with fail
    refine HF.out.mono ?_
    rintro e w1 ⟨rfl, d, rfl⟩
    go_wp2_with fail
    go_ret2
    exact ⟨_, rfl, OwnF.zero _ _, below_drewN (Below.refl _ _) d⟩
  · have HF : Hid (Calls Tryd.prog 46 #[.slice a L.length cap] w fun e w' => e = .returned (.bool true) ∧ ∃ d, w' = w.drewN d) := Lib.hid (by rw [← hf]; exact l10Fine_any a L.length cap L w HC.out HN.out)
    cases hl : lenI (L.length : Int)
    · have HL : Hid (∀ u, Calls Tryd.prog 39 #[.int .i64 (L.length : Int)] u fun e w' => e = .returned (.bool false) ∧ u = w') := Lib.hid (fun u => by rw [← hl]; exact l10Length_any _ u)
      rw [(sb_len hf hl).1, (sb_len hf hl).2.2]
      clear hf hl HC HN hn
      generalize L.length = n at *
      go_enter Tryd.func15, Tryd.ntmps15
      go_wp2_with fail
      refine HF.out.mono ?_
      rintro e w1 ⟨rfl, d, rfl⟩
      go_wp2_with fail
      refine (HL.out _).mono ?_
      rintro e w1 ⟨rfl, rfl⟩
      go_wp2_with fail
      go_ret2
      exact ⟨_, rfl, OwnF.zero _ _, below_drewN (Below.refl _ _) d⟩
    · have HL : Hid (∀ u, Calls Tryd.prog 39 #[.int .i64 (L.length : Int)] u fun e w' => e = .returned (.bool true) ∧ u = w') := Lib.hid (fun u => by rw [← hl]; exact l10Length_any _ u)
      have HT := Lib.hid (fun u hu => l10Back_any a L.length cap L u hu hl hf)
      clear hf hl HN hn
      generalize L.length = n at *
      generalize sbCode L = sc at *
      go_enter Tryd.func15, Tryd.ntmps15
      go_wp2_with fail
      refine HF.out.mono ?_
      rintro e w1 ⟨rfl, d, rfl⟩
      have HC1 : Hid (CameF a n L (w.drewN d)) := Lib.hid (HC.out.below (below_drewN (Below.refl _ _) d) (Nat.le_refl _))
      have B1 : Hid (Below w.heap.size w (w.drewN d)) := Lib.hid (below_drewN (Below.refl _ _) d)
      generalize w.drewN d = w1 at *
      go_wp2_with fail
      refine (HL.out _).mono ?_
      rintro e w2 ⟨rfl, rfl⟩
      go_wp2_with fail
      refine (HT.out _ HC1.out).mono ?_
      rintro e w2 ⟨r, rfl, O3, B3⟩
      have OO := Lib.hid O3
      have BB : Hid (Below w.heap.size w w2) := Lib.hid (B1.out.trans (B3.mono B1.out.size))
      obtain ⟨ad, cp, e0, _⟩ := O3.came
      subst e0
      clear O3 B3
      go_wp2_with fail
      go_ret2
      exact ⟨_, rfl, OO.out.mono B1.out.size, BB.out⟩

end Go.Proofs.YtclflnpbiiimiaaDoor

namespace Go.Proofs.YtclflnpbiiimiaaDoor
open Go Go.RowKit
attribute [local go_sem] Oper.semAt_some

/-- a place below n and a number that R lets stand there -/
def Pt (n : Nat) (R : Nat → Nat → Prop) := { x : Nat × Nat // x.1 < n ∧ R x.1 x.2 }

/-- a function value that ranges over the places 0 to n - 1, with numbers that R lets stand there -/
def Seq (g : Nat) (lb : Array Value) (n : Nat) (R : Nat → Nat → Prop) (n₀ : Nat) (w : World) : Prop :=
  SeqStopsK Fence.wide 9 Tryd.prog g lb (fun x : Pt n R => #[Value.int .i64 (x.1.1 : Int), Value.float .f32 x.1.2]) (Below n₀) (fun xs => xs.map (fun x => x.1.1) = List.range n) (fun _ => True) n w

theorem Seq.later {g : Nat} {lb : Array Value} {n : Nat} {R : Nat → Nat → Prop} {n₀ m : Nat} {w w' : World} (h : Seq g lb n R n₀ w) (hb : Below w.heap.size w w') (hm : n₀ ≤ m) : Seq g lb n R m w' :=
  fun l J Jx W hW hJ hJx hY h0 => h l J Jx W (hb.trans (hW.mono hb.size)) hJ hJx (fun pre x W1 hj hl => by
    obtain ⟨fn, tmps, assign, body, hy, hR⟩ := hY pre x W1 hj hl
    refine ⟨fn, tmps, assign, body, hy, hR.mono ?_⟩
    rintro e W' (⟨a, b, c⟩ | hx)
    · exact .inl ⟨a, b, c.mono hm⟩
    · exact .inr hx) h0

/-- what is asked of a closure that tells the number of a place -/
def Tells (g : Nat) (lb : Array Value) (n : Nat) (R : Nat → Nat → Prop) (n₀ : Nat) (w : World) : Prop :=
  ∀ j, j < n → ∀ W, Below n₀ w W → Calls Tryd.prog g (#[.int .i64 (j : Int)] ++ lb) W fun e W' => (∃ v, e = .returned (.float .f32 v) ∧ R j v) ∧ Below W.heap.size W W'

theorem below_grow {w w' : World} (h : Below w.heap.size w w') : w.grownBy w' none := ⟨h.os, h.tape, h.output, h.size, fun k hk _ => h.block k hk⟩

set_option maxRecDepth 100000 in
set_option maxHeartbeats 2000000 in
/-- the iterator itself -/
theorem inOrder_in (n : Nat) (hn : n ≤ 64) (R : Nat → Nat → Prop) (g : Nat) (lb : Array Value) (hg : ∀ (j : Int) v, (callFunc g (#[.int .i64 j] ++ lb)).run Tryd.prog v = .ok (.enter g (#[.int .i64 j] ++ lb)) v)
    (l Bn Bf n₀ : Nat) (J Jx : List (Pt n R) → World → Prop) (W : World) (hJ : AbidesFrom W.heap.size J)
    (hY : ∀ pre x W, J pre W → pre.length < n → YieldAt Fence.wide 8 Tryd.prog l #[.int .i64 (x.1.1 : Int), .float .f32 x.1.2] W fun e W' =>
      (e = .returned (.bool true) ∧ J (pre ++ [x]) W' ∧ Below n₀ W W') ∨ (e = .returned (.bool false) ∧ Jx (pre ++ [x]) W'))
    (hT : Tells g lb n R n₀ W) (hn₀ : n₀ ≤ W.heap.size)
    (hBn : W.cell? ⟨Bn, 0, none⟩ = some (.int .i64 n)) (hBf : W.cell? ⟨Bf, 0, none⟩ = some (.func (.func g) #[] lb)) (hbn : Bn < n₀) (hbf : Bf < n₀) (h0 : J [] W) :
    CallsIn Fence.wide 9 Tryd.prog 80 #[.func (.yield l) #[] #[], .pointer (some ⟨Bn, 0, none⟩), .pointer (some ⟨Bf, 0, none⟩)] W fun e W' => (∃ v, e = .returned v) ∧
      ((∃ ys, ys.map (fun x => x.1.1) = List.range n ∧ J ys W') ∨ (∃ pre, True ∧ Jx pre W')) := by
  refine callsIn_of_wp Tryd.func80 rfl trivial ?_ rfl
  simp only [Tryd.ntmps80, List.size_toArray, List.length_cons, List.length_nil, Nat.reduceAdd, Nat.reduceSub, Array.replicate_succ, Array.replicate_zero, List.push_toArray, List.append_toArray, List.nil_append, List.cons_append]
  gi_wp2
  gi_loopw [6] (fun i wr => ∃ (k : Nat) (pre : List (Pt n R)), k ≤ n ∧ i = .int .i64 k ∧ pre.map (fun x => x.1.1) = List.range k ∧ J pre wr ∧ Below n₀ W wr)
    (fun i _ => n - (intOf i).toNat)
  case atStart => exact ⟨0, [], Nat.zero_le _, rfl, rfl, h0, Below.refl _ _⟩
  case round =>
    obtain ⟨k, pre, hk, rfl, hpre, hJs, hB⟩ := hrel
    have hbn2 : wr.cell? ⟨Bn, 0, none⟩ = some (.int .i64 n) := (hB.cell (p := ⟨Bn, 0, none⟩) hbn).trans hBn
    have hbf2 : wr.cell? ⟨Bf, 0, none⟩ = some (.func (.func g) #[] lb) := (hB.cell (p := ⟨Bf, 0, none⟩) hbf).trans hBf
    by_cases hlt : k < n
    · have hdk : decide ((k : Int) < (n : Int)) = true := by simp; omega
      gi_wp2
      refine ⟨trivial, (callsIn_wide.2 (hT k hlt wr hB)).mono ?_⟩
      rintro e W1 ⟨⟨v, rfl, hv⟩, hb1⟩
      have hlen : pre.length = k := by have := congrArg List.length hpre; simpa using this
      obtain ⟨fn, tmps, assign, body, hy, hR⟩ := hY pre ⟨(k, v), hlt, hv⟩ W1 (hJ _ _ _ none hJs (below_grow hb1) (fun r h => by cases h)) (by omega)
      dsimp only at hy
      gi_wp2
      refine hR.mono ?_
      rintro e W3 (⟨rfl, hJ3, hk3⟩ | ⟨rfl, hJx3⟩)
      · gi_wp2
        go_roundw
        case rel => exact ⟨k + 1, _, by omega, by simp, by rw [List.map_append, hpre, List.range_succ]; rfl, hJ3, (hB.trans (hb1.mono (Nat.le_trans hn₀ hB.size))).trans hk3⟩
        case measure => simp [intOf]; omega
      · gi_wp2
        refine bodyPost_ret (results_none rfl _ _ _) rfl ?_
        exact ⟨⟨_, rfl⟩, .inr ⟨_, trivial, hJx3⟩⟩
    · obtain rfl : k = n := by omega
      gi_wp2
      go_end0
      exact ⟨⟨_, rfl⟩, .inl ⟨pre, hpre, hJs⟩⟩

/-- the iterator as it lies in memory -/
theorem inOrder_seq (n : Nat) (hn : n ≤ 64) (R : Nat → Nat → Prop) (g : Nat) (lb : Array Value) (hg : ∀ (j : Int) v, (callFunc g (#[.int .i64 j] ++ lb)).run Tryd.prog v = .ok (.enter g (#[.int .i64 j] ++ lb)) v)
    (Bn Bf n₀ : Nat) (w : World) (hT : Tells g lb n R n₀ w) (hn₀ : n₀ ≤ w.heap.size)
    (hBn : w.cell? ⟨Bn, 0, none⟩ = some (.int .i64 n)) (hBf : w.cell? ⟨Bf, 0, none⟩ = some (.func (.func g) #[] lb)) (hbn : Bn < n₀) (hbf : Bf < n₀) :
    Seq 80 #[.pointer (some ⟨Bn, 0, none⟩), .pointer (some ⟨Bf, 0, none⟩)] n R n₀ w :=
  fun l J Jx W hW hJ _ hY h0 =>
    inOrder_in n hn R g lb hg l Bn Bf n₀ J Jx W hJ hY (fun j hj V hV => hT j hj V ((hW.mono hn₀).trans hV)) (Nat.le_trans hn₀ hW.size)
      ((hW.cell (p := ⟨Bn, 0, none⟩) (by simp; omega)).trans hBn) ((hW.cell (p := ⟨Bf, 0, none⟩) (by simp; omega)).trans hBf) hbn hbf h0

/-- what the maker of an iterator hands back -/
def Makes (f : FuncId) (args : Array Value) (n : Nat) (R : Nat → Nat → Prop) : Prop :=
  ∀ w, Calls Tryd.prog f args w fun e w' => (∃ lb, e = .returned (.func (.func 80) #[] lb) ∧ Seq 80 lb n R w'.heap.size w') ∧ Below w.heap.size w w'

set_option maxRecDepth 100000 in
set_option maxHeartbeats 400000 in
theorem inOrder_any (n : Nat) (hn : n ≤ 64) (R : Nat → Nat → Prop) (g : Nat) (lb : Array Value) (hg : ∀ (j : Int) v, (callFunc g (#[.int .i64 j] ++ lb)).run Tryd.prog v = .ok (.enter g (#[.int .i64 j] ++ lb)) v)
    (w : World) (hT : Tells g lb n R w.heap.size w) : Calls Tryd.prog 65 #[.int .i64 n, .func (.func g) #[] lb] w fun e w' =>
      (∃ lb', e = .returned (.func (.func 80) #[] lb') ∧ Seq 80 lb' n R w'.heap.size w') ∧ Below w.heap.size w w' := by
  have HT := Lib.hid hT
  clear hT
  go_enter Tryd.func65, Tryd.ntmps65
  go_wp2
  go_ret
  have B1 : Below w.heap.size w ((w.alloc (.cells #[.int .i64 n] 2)).alloc (.cells #[.func (.func g) #[] lb] 79)) := ((Below.refl _ w).alloc (Nat.le_refl _) _).alloc (by simp) _
  refine ⟨⟨_, rfl, ?_⟩, B1⟩
  have bN := Boxed.new w 2 (.int .i64 n)
  have bF := Boxed.new (w.alloc (.cells #[.int .i64 n] 2)) 79 (.func (.func g) #[] lb)
  rw [World.size_alloc] at bF
  refine inOrder_seq n hn R g lb hg w.heap.size (w.heap.size + 1) _ _ (fun j hj V hV => HT.out j hj V (B1.trans (hV.mono (by simp; omega)))) (Nat.le_refl _) (bN.alloc _).cell bF.cell (by simp; omega) (by simp)

end Go.Proofs.YtclflnpbiiimiaaDoor
