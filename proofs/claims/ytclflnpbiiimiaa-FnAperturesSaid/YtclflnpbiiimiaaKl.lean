/- Shadows and decoded lists: what they are; the model's code of such a list; a list that is appended to beside another one. Condition: none. -/
import Derived.Test.YtclflnpbiiimiaaM17
import Derived.Test.YtclflnpbiiimiaaM14
namespace Go.Proofs.Ytclflnpbiiimiaa
open Go Go.RowKit Ieee

/-- the mask of a code -/
def mk (c : Nat) : Nat := if c = plusOne then plusOne else 0
theorem leg_two (p j : Nat) : leg p j = plusOne ∨ leg p j = minusOne := legTo_two p j p
theorem leg_fin (p j : Nat) : fin (leg p j) = true := by rcases leg_two p j with h | h <;> rw [h] <;> decide
theorem mk_fin (c : Nat) : fin (mk c) = true := by unfold mk; split <;> decide
theorem run_max_leg (p j : Nat) (ts : Array TypeId) (t : TypeId) (w : World) : (Builtin.max_ ts t #[.float .f32 (leg p j), .float .f32 0]).run Try.prog w = .ok (.float .f32 (mk (leg p j))) w := by
  rcases leg_two p j with h | h <;> rw [h]
  · rfl
  · rfl

/-- the product j of the shadow at k, and of the decoded list -/
def shF (A : List Nat) (k : Nat) : Nat → Nat := fun j => mulF (A.getD j 0) (mk (leg A.length ((k + A.length - j) % A.length)))
def sha (A : List Nat) : Option (List Nat) := rowsTo (fun k => accTo (shF A k) A.length) A.length
def dcF (A : List Nat) (k : Nat) : Nat → Nat := fun j => mulF (A.getD j 0) (leg A.length ((j + A.length - k) % A.length))
def half (n : Nat) : Nat := fl32 ((n + 1) / 2)
def dec (A : List Nat) : Option (List Nat) := rowsTo (fun k => (accTo (dcF A k) A.length).map (fun s => divS s (half A.length))) A.length
/-- the code of a list whose length is to be one of the primes -/
def scC (A : List Nat) : Int := if A.all fin = false then 1 else if prI (A.length : Int) = false then 2 else 0
def shCode (A : List Nat) : Int := if scC A = 0 then ansC (sha A) else scC A
def shList (A : List Nat) : List Nat := if scC A = 0 then ansL (sha A) else []
def dcCode (A : List Nat) : Int := if scC A = 0 then ansC (dec A) else scC A
def dcList (A : List Nat) : List Nat := if scC A = 0 then ansL (dec A) else []
theorem sc_zero {A : List Nat} (h : scC A = 0) : A.all fin = true ∧ prI (A.length : Int) = true := by
  unfold scC at h
  cases hf : A.all fin
  · rw [if_pos hf] at h; cases h
  · rw [if_neg (by rw [hf]; decide)] at h
    cases hp : prI (A.length : Int)
    · rw [if_pos hp] at h; cases h
    · exact ⟨rfl, rfl⟩
theorem pr_len {n : Nat} (h : prI (n : Int) = true) : 3 ≤ n ∧ n ≤ 31 := by rcases prI_yes h with e | e | e | e | e | e <;> omega
theorem rows_small (A : List Nat) (F : Nat → Option Nat) (h : scC A = 0) : (ansL (rowsTo F A.length)).length ≤ 31 := by
  have := (pr_len (sc_zero h).2).2
  unfold ansL
  cases hc : rowsTo F A.length with
  | none => simp
  | some R => have := rows_len hc; simp; omega
theorem sh_len (A : List Nat) : (shList A).length ≤ 31 := by
  unfold shList
  split
  · exact rows_small A _ (by assumption)
  · simp
theorem dc_len (A : List Nat) : (dcList A).length ≤ 31 := by
  unfold dcList
  split
  · exact rows_small A _ (by assumption)
  · simp
theorem half_any {n : Nat} (h : prI (n : Int) = true) : fin (half n) = true ∧ gtz (half n) = true := by
  rcases prI_yes h with e | e | e | e | e | e
  · obtain rfl : n = 3 := by omega
    decide +kernel
  · obtain rfl : n = 7 := by omega
    decide +kernel
  · obtain rfl : n = 11 := by omega
    decide +kernel
  · obtain rfl : n = 19 := by omega
    decide +kernel
  · obtain rfl : n = 23 := by omega
    decide +kernel
  · obtain rfl : n = 31 := by omega
    decide +kernel
theorem div_half (x n : Nat) (hx : fin x = true) (h : prI (n : Int) = true) : single.div x (half n) = some (divS x (half n)) := by
  obtain ⟨r, hr, _⟩ := div_num x (half n) (notnan_fin x hx) (half_any h).1 (half_any h).2
  unfold divS
  rw [hr]
  rfl

set_option maxRecDepth 100000 in
theorem l10Code_any (a : Option Addr) (c : Nat) (L : List Nat) (w : World) (h : CameF a L.length L w) (hn : L.length ≤ 1048576) :
    Calls Try.prog 37 #[.slice a L.length c] w fun e w' => e = .returned (.int .i64 (scC L)) ∧ ∃ d, w' = w.drewN d := by
  cases hf : L.all fin
  · have HF : Hid (Calls Try.prog 45 #[.slice a L.length c] w fun e w' => e = .returned (.bool false) ∧ ∃ d, w' = w.drewN d) := Lib.hid (by rw [← hf]; exact l10Fine_any a L.length c L w h hn)
    have HS : Hid (scC L = 1) := Lib.hid (by unfold scC; rw [if_pos hf])
    rw [HS.out]
    clear hf h hn HS
    generalize L.length = n at *
    go_enter Try.func37, Try.ntmps37
    go_wp2_with fail
    refine HF.out.mono ?_
    rintro e w1 ⟨rfl, d, rfl⟩
    go_wp2_with fail
    go_ret
    exact ⟨rfl, d, rfl⟩
  · have HF : Hid (Calls Try.prog 45 #[.slice a L.length c] w fun e w' => e = .returned (.bool true) ∧ ∃ d, w' = w.drewN d) := Lib.hid (by rw [← hf]; exact l10Fine_any a L.length c L w h hn)
    cases hp : prI (L.length : Int)
    · have HP : Hid (∀ z, Calls Try.prog 28 #[.int .i64 (L.length : Int)] z fun e w' => e = .returned (.bool false) ∧ z = w') := Lib.hid (fun z => by rw [← hp]; exact l10Prime_any _ z)
      have HS : Hid (scC L = 2) := Lib.hid (by unfold scC; rw [if_neg (by rw [hf]; decide), if_pos hp])
      rw [HS.out]
      clear hf hp h hn HS
      generalize L.length = n at *
      go_enter Try.func37, Try.ntmps37
      go_wp2_with fail
      refine HF.out.mono ?_
      rintro e w1 ⟨rfl, d, rfl⟩
      go_wp2_with fail
      refine (HP.out _).mono ?_
      rintro e w1 ⟨rfl, rfl⟩
      go_wp2_with fail
      go_ret
      exact ⟨rfl, d, rfl⟩
    · have HP : Hid (∀ z, Calls Try.prog 28 #[.int .i64 (L.length : Int)] z fun e w' => e = .returned (.bool true) ∧ z = w') := Lib.hid (fun z => by rw [← hp]; exact l10Prime_any _ z)
      have HS : Hid (scC L = 0) := Lib.hid (by unfold scC; rw [if_neg (by rw [hf]; decide), if_neg (by rw [hp]; decide)])
      rw [HS.out]
      clear hf hp h hn HS
      generalize L.length = n at *
      go_enter Try.func37, Try.ntmps37
      go_wp2_with fail
      refine HF.out.mono ?_
      rintro e w1 ⟨rfl, d, rfl⟩
      go_wp2_with fail
      refine (HP.out _).mono ?_
      rintro e w1 ⟨rfl, rfl⟩
      go_wp2_with fail
      go_ret
      exact ⟨rfl, d, rfl⟩

/-- a list stays where its block does -/
theorem OwnF.same {B g n c : Nat} {L : List Nat} {w w' : World} (h : OwnF B (.slice (some ⟨g, 0, none⟩) n c) L w) (k : w'.heap[g]? = w.heap[g]?) : OwnF B (.slice (some ⟨g, 0, none⟩) n c) L w' := by
  refine ⟨h.1, ?_⟩
  rcases h.2 with ⟨hv, _⟩ | ⟨g', cap, cur, hv, hb, hg, r⟩
  · cases hv
  · cases hv
    exact .inr ⟨g, c, cur, rfl, hb, by rw [k]; exact hg, r⟩
/-- a number is appended; a block that is not the list's own stays as it was -/
theorem wpList_pushG {ops : Array Oper} {rest : List Oper} {o : Oper} {a : Act} {Q : Exit → Act → World → Prop} {w : World} (hgd : o.guard = none) (s x : Operand)
    (ho : o.op = .call { callee := .builtin .append, args := #[s, x], argTypes := #[25, 25] }) (B : Nat) (v : Value) (L : List Nat) (y : Nat)
    (hs : a.eval s = v) (hx : a.eval x = .slice (some ⟨w.heap.size, 0, none⟩) 1 1) (hO : OwnF B v L w) (hL : L.length ≤ 1048576) (hB : B ≤ w.heap.size)
    (h : ∀ v' w', OwnF B v' (L ++ [y]) w' → Below B w w' → (∀ g, g < w.heap.size → v.ownBlock ≠ some g → w'.heap[g]? = w.heap[g]? ∧ v'.ownBlock ≠ some g) → wpList Try.prog ops Q rest (a.put o.dst v') w') : wpList Try.prog ops Q (o :: rest) a (w.alloc (.cells #[.float .f32 y] 40)) := by
  refine wpList_plain hgd fun _ hK => ?_
  obtain ⟨i0, hi, hz0, hz1, hz2⟩ := info_parts infoF
  have hy : (w.alloc (.cells #[.float .f32 y] 40)).cell? ⟨w.heap.size, 0, none⟩ = some (.float .f32 y) := World.cell?_alloc_at _ _ _ _ rfl
  obtain ⟨v', w', hr, hown, hgrow, _, hblk⟩ := run_append_own_at (P := Try.prog) (w.alloc (.cells #[.float .f32 y] 40)) B 25 o.type 40 i0 (.float .f32 0) 1 4 Try.underlying25 hi hz0 hz1 hz2 rfl (by decide) v L.length (L.map (Value.float .f32)) (hO.alloc _) ⟨w.heap.size, 0, none⟩ 1 1 [.float .f32 y] rfl (by
    intro j u hj
    match j, hj with
    | 0, hj =>
      simp at hj; subst hj
      rw [Addr.add_mid]
      exact hy) (by intro u hu; simp at hu; subst hu; rfl) (by unfold maxLen; omega) (by omega) (by rw [World.size_alloc]; omega)
  unfold Oper.wp execOp
  simp only [ho, resolve, invoke, builtin, Sem.run_bind, Sem.run_pure, Result.andThen_ok, List.map_toArray, List.map_cons, List.map_nil, hs, hx, hr]
  refine hK _ _ (h v' w' ?_ ?_ ?_)
  · unfold OwnF
    rw [List.length_append, List.map_append]
    exact hown
  · exact ((Below.refl B w).alloc hB _).grown hgrow (by rw [World.size_alloc]; omega) (fun j hj => (World.ownsRow.lt hO j hj).1)
  · intro g hg hne
    refine ⟨(hgrow.block g (by rw [World.size_alloc]; omega) (fun e => hne e.symm)).trans (heap_alloc_old _ _ hg), fun e => ?_⟩
    rcases hblk with h1 | h1
    · exact hne (by rw [← h1, e])
    · rw [h1] at e
      injection e with e
      rw [World.size_alloc] at e
      omega

end Go.Proofs.Ytclflnpbiiimiaa
