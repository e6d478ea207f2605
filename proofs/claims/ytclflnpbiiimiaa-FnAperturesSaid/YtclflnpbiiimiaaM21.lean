/- The program's code of Walsh: the iterator, the list, the function. Condition: none. How the program asks whether lists are lists of numbers. Condition: as many numbers as a law lets in. How the program asks whether lists hold numbers and the rest is in its range. Condition: as many numbers as a law lets in. The program's lists of told numbers, with the error where one is not finite. Condition: at most 64 places. -/
import Derived.Test.YtclflnpbiiimiaaM20
import Derived.Test.YtclflnpbiiimiaaM8
import Derived.Test.YtclflnpbiiimiaaM4
import Derived.Test.YtclflnpbiiimiaaM16
namespace Go.Proofs.Ytclflnpbiiimiaa
open Go Go.RowKit Go.Shelf Ieee

theorem list_of {L : List Nat} {n : Nat} {F : Nat → Nat} (hl : L.length = n) (h : ∀ j, j < n → L.getD j 0 = F j) : L = (List.range n).map F := by
  apply List.ext_getElem?
  intro j
  by_cases hj : j < n
  · have := h j hj
    rw [List.getD_eq_getElem?_getD] at this
    rw [List.getElem?_map, List.getElem?_range hj]
    rw [List.getElem?_eq_getElem (by omega)] at this ⊢
    simpa using this
  · rw [List.getElem?_eq_none (by omega), List.getElem?_eq_none (by simp; omega)]

/-- how many digits are 1 -/
def pop (q : Nat) : Nat := q % 2 + q / 2 % 2 + q / 4 % 2 + q / 8 % 2 + q / 16 % 2 + q / 32 % 2
theorem par_step (q : Nat) : par q = xor (q % 2 == 1) (par (q / 2)) := by
  rcases Nat.eq_zero_or_pos q with rfl | h
  · rw [par_zero]; rfl
  · exact par_pos q h
theorem bits_par : ∀ a b c d e f : Fin 2, ((a.val + b.val + c.val + d.val + e.val + f.val) % 2 == 0) = !(xor (a.val == 1) (xor (b.val == 1) (xor (c.val == 1) (xor (d.val == 1) (xor (e.val == 1) (xor (f.val == 1) false)))))) := by decide +kernel
theorem pop_par (q : Nat) (h : q < 64) : (pop q % 2 == 0) = !par q := by
  rw [par_step q, par_step (q / 2), par_step (q / 2 / 2), par_step (q / 2 / 2 / 2), par_step (q / 2 / 2 / 2 / 2), par_step (q / 2 / 2 / 2 / 2 / 2)]
  simp only [Nat.div_div_eq_div_mul, Nat.reduceMul]
  rw [show q / 64 = 0 by omega, par_zero]
  exact bits_par ⟨q % 2, by omega⟩ ⟨q / 2 % 2, by omega⟩ ⟨q / 4 % 2, by omega⟩ ⟨q / 8 % 2, by omega⟩ ⟨q / 16 % 2, by omega⟩ ⟨q / 32 % 2, by omega⟩

end Go.Proofs.Ytclflnpbiiimiaa

namespace Go.Proofs.Ytclflnpbiiimiaa
open Go Go.RowKit

theorem any_snoc (p : Nat → Bool) (L : List Nat) (k : Nat) (hk : k < L.length) : (L.take (k + 1)).any p = ((L.take k).any p || p (L.getD k 0)) := by
  rw [take_succ_getDF L k hk, List.any_append]
  simp
theorem any_here (p : Nat → Bool) (L : List Nat) (k : Nat) (hk : k < L.length) (h : p (L.getD k 0) = true) : L.any p = true := by
  rw [List.any_eq_true]
  refine ⟨L.getD k 0, ?_, h⟩
  rw [List.getD_eq_getElem?_getD, List.getElem?_eq_getElem hk]
  exact List.getElem_mem hk

/-- a closure that asks something of a number -/
def Asks (f : FuncId) (p : Nat → Bool) : Prop := ∀ x w, Calls Try.prog f #[.float .f32 x] w fun e w' => e = .returned (.bool (p x)) ∧ ∃ d, w' = w.drewN d

set_option maxRecDepth 100000 in
set_option maxHeartbeats 800000 in
theorem indexF_any (f : FuncId) (p : Nat → Bool) (a : Option Addr) (n cap : Nat) (L : List Nat) (w : World) (h : CameF a n L w) (hn : n ≤ 1048576)
    (hE : ∀ (x : Nat) (v : World), (callFunc f #[.float .f32 x]).run Try.prog v = .ok (.enter f #[.float .f32 x]) v) (hf : Asks f p) :
    Calls Try.prog 62 #[.slice a n cap, .func (.func f) #[] #[]] w fun e w' => ∃ r : Int, e = .returned (.int .i64 r) ∧ decide (r ≥ 0) = L.any p ∧ ∃ d, w' = w.drewN d := by
  have H1 := Lib.hid h
  have HF := Lib.hid hf
  clear h hf
  go_enter Try.func62, Try.ntmps62
  go_wp2
  go_loopw [8] (fun i wr => ∃ k : Nat, k ≤ n ∧ i = .int .i64 k ∧ Hid ((L.take k).any p = false) ∧ Hid (∃ d, wr = w.drewN d)) (fun i _ => n - (intOf i).toNat)
  case atStart => exact ⟨0, by omega, rfl, Lib.hid (by simp), Lib.hid ⟨0, rfl⟩⟩
  case round =>
    obtain ⟨k, hk, rfl, HP, HW⟩ := hrel
    by_cases hlt : k < n
    · have hdk : decide ((k : Int) < (n : Int)) = true := by simp; omega
      have HL := H1.out.1
      obtain ⟨b1, o1, rfl, hb1, hc1⟩ := H1.out.2 (by omega)
      have p1 : wr.cell? ⟨b1, o1 + k, none⟩ = some (.float .f32 (L.getD k 0)) := by obtain ⟨d, rfl⟩ := HW.out; rw [World.cell?_drewN]; exact hc1 k hlt
      clear hb1 hc1
      have HP2 := Lib.hid (any_snoc p L k (by omega))
      have HAL := Lib.hid (any_here p L k (by omega))
      clear HL
      generalize L.getD k 0 = x at *
      obtain ⟨q, HQ⟩ : ∃ q, p x = q := ⟨_, rfl⟩
      have HX := Lib.hid HQ
      have HFX := HF.out x
      rw [HX.out] at HFX
      have HFX := Lib.hid HFX
      clear HQ
      cases q
      · go_wp2_with fail
        refine (HFX.out _).mono ?_
        rintro e w1 ⟨rfl, d, rfl⟩
        have HW2 : Hid (∃ d', wr.drewN d = w.drewN d') := Lib.hid (by obtain ⟨d0, h0⟩ := HW.out; exact ⟨_, by rw [h0, World.drewN_drewN]⟩)
        generalize wr.drewN d = w1 at *
        go_wp2
        exact ⟨⟨k + 1, by omega, by go_num, Lib.hid (by rw [HP2.out, HP.out, HX.out]; rfl), HW2⟩, by simp [intOf]; omega⟩
      · have HA := Lib.hid (HAL.out HX.out)
        go_wp2_with fail
        refine (HFX.out _).mono ?_
        rintro e w1 ⟨rfl, d, rfl⟩
        have HW2 : Hid (∃ d', wr.drewN d = w.drewN d') := Lib.hid (by obtain ⟨d0, h0⟩ := HW.out; exact ⟨_, by rw [h0, World.drewN_drewN]⟩)
        generalize wr.drewN d = w1 at *
        go_wp2
        go_ret
        exact ⟨_, rfl, by rw [HA.out]; simp, HW2.out⟩
    · obtain rfl : k = n := by omega
      have HL := H1.out.1
      have HA : Hid (L.any p = false) := Lib.hid (by have := HP.out; rwa [← HL, List.take_length] at this)
      go_wp2
      go_ret
      exact ⟨_, rfl, by rw [HA.out]; simp, HW.out⟩

set_option maxRecDepth 100000 in
theorem containsF_any (f : FuncId) (p : Nat → Bool) (a : Option Addr) (n cap : Nat) (L : List Nat) (w : World) (h : CameF a n L w) (hn : n ≤ 1048576)
    (hE : ∀ (x : Nat) (v : World), (callFunc f #[.float .f32 x]).run Try.prog v = .ok (.enter f #[.float .f32 x]) v) (hf : Asks f p) :
    Calls Try.prog 50 #[.slice a n cap, .func (.func f) #[] #[]] w fun e w' => e = .returned (.bool (L.any p)) ∧ ∃ d, w' = w.drewN d := by
  have HC := Lib.hid (indexF_any f p a n cap L w h hn hE hf)
  clear h hf hE
  go_enter Try.func50, Try.ntmps50
  go_wp2_with fail
  refine HC.out.mono ?_
  rintro e w1 ⟨r, rfl, hr, d, rfl⟩
  have HR := Lib.hid hr
  have HW : Hid (∃ d', w.drewN d = w.drewN d') := Lib.hid ⟨_, rfl⟩
  generalize w.drewN d = w1 at *
  clear hr
  go_wp2
  go_ret
  exact ⟨by rw [← HR.out]; rfl, HW.out⟩

theorem isNone_any : Asks 65 (fun x => !fin x) := by
  intro x w
  show Calls _ _ _ _ (fun e w' => e = .returned (.bool (!fin x)) ∧ ∃ d, w' = w.drewN d)
  have HF := Lib.hid (finite_any x)
  generalize fin x = b at *
  go_enter Try.func65, Try.ntmps65
  go_wp2_with fail
  refine (HF.out _).mono ?_
  rintro e w1 ⟨rfl, d, rfl⟩
  have HW : Hid (∃ d', w.drewN d = w.drewN d') := Lib.hid ⟨_, rfl⟩
  generalize w.drewN d = w1 at *
  go_wp2
  go_ret
  exact ⟨rfl, HW.out⟩

theorem not_any (L : List Nat) : (!L.any (fun x => !fin x)) = L.all fin := by
  induction L with
  | nil => rfl
  | cons x L ih => rw [List.any_cons, List.all_cons, Bool.not_or, Bool.not_not, ih]

set_option maxRecDepth 100000 in
theorem areNum_any (a : Option Addr) (n cap : Nat) (L : List Nat) (w : World) (h : CameF a n L w) (hn : n ≤ 1048576) :
    Calls Try.prog 58 #[.slice a n cap] w fun e w' => e = .returned (.bool (L.all fin)) ∧ ∃ d, w' = w.drewN d := by
  have HC := Lib.hid (containsF_any 65 _ a n cap L w h hn (fun x v => by simp [go_sem]) isNone_any)
  have HE := Lib.hid (not_any L)
  clear h
  generalize L.any (fun x => !fin x) = b at *
  go_enter Try.func58, Try.ntmps58
  go_wp2_with fail
  refine HC.out.mono ?_
  rintro e w1 ⟨rfl, d, rfl⟩
  have HW : Hid (∃ d', w.drewN d = w.drewN d') := Lib.hid ⟨_, rfl⟩
  generalize w.drewN d = w1 at *
  go_wp2
  go_ret
  exact ⟨by rw [← HE.out]; rfl, HW.out⟩

set_option maxRecDepth 100000 in
theorem finNums_any (B : Nat) (v : Value) (L : List Nat) (w : World) (h : OwnF B v L w) (hn : L.length ≤ 1048576) :
    Calls Try.prog 59 #[v] w fun e w' => (∃ d, w' = w.drewN d) ∧ ((L.all fin = true ∧ e = .returned (.tuple #[v, .int .i64 0])) ∨ (L.all fin = false ∧ e = .returned (.tuple #[.slice none 0 0, .int .i64 3]))) := by
  obtain ⟨a, cap, rfl, hC⟩ := h.came
  have HC := Lib.hid (areNum_any a L.length cap L w hC hn)
  generalize L.length = n at *
  clear h hC
  cases hb : L.all fin
  · rw [hb] at HC
    go_enter Try.func59, Try.ntmps59
    go_wp2_with fail
    refine HC.out.mono ?_
    rintro e w1 ⟨rfl, d, rfl⟩
    have HW : Hid (∃ d', w.drewN d = w.drewN d') := Lib.hid ⟨_, rfl⟩
    generalize w.drewN d = w1 at *
    go_wp2
    go_ret2
    exact ⟨HW.out, .inr ⟨by trivial, rfl⟩⟩
  · rw [hb] at HC
    go_enter Try.func59, Try.ntmps59
    go_wp2_with fail
    refine HC.out.mono ?_
    rintro e w1 ⟨rfl, d, rfl⟩
    have HW : Hid (∃ d', w.drewN d = w.drewN d') := Lib.hid ⟨_, rfl⟩
    generalize w.drewN d = w1 at *
    go_wp2
    go_ret2
    exact ⟨HW.out, .inl ⟨by trivial, rfl⟩⟩

end Go.Proofs.Ytclflnpbiiimiaa

namespace Go.Proofs.Ytclflnpbiiimiaa
open Go Go.RowKit

/-- the code for lists, and for the rest -/
def chk (b : Bool) (Ls : List (List Nat)) : Int := if Ls.all (fun L => L.all fin) = false then 1 else if b = true then 0 else 2
/-- lists that lie one by one in a block -/
def Rows (g m : Nat) (Ls : List (List Nat)) (w : World) : Prop := Ls.length = m ∧ ∀ i, i < m → ∃ a cap, w.cell? ⟨g, i, none⟩ = some (.slice a (Ls.getD i []).length cap) ∧ CameF a (Ls.getD i []).length (Ls.getD i []) w ∧ (Ls.getD i []).length ≤ 1048576
theorem all_rows (Ls : List (List Nat)) (k : Nat) (hk : k < Ls.length) : (Ls.take (k + 1)).all (fun L => L.all fin) = ((Ls.take k).all (fun L => L.all fin) && (Ls.getD k []).all fin) := by
  rw [List.take_add_one, List.getElem?_eq_getElem hk, List.all_append, List.getD_eq_getElem?_getD, List.getElem?_eq_getElem hk]
  simp
theorem all_bad (Ls : List (List Nat)) (k : Nat) (hk : k < Ls.length) (h : (Ls.getD k []).all fin = false) : Ls.all (fun L => L.all fin) = false := by
  rw [List.all_eq_false]
  refine ⟨Ls[k], List.getElem_mem hk, ?_⟩
  rw [List.getD_eq_getElem?_getD, List.getElem?_eq_getElem hk] at h
  simp only [Option.getD_some] at h
  rw [h]
  decide

set_option maxRecDepth 100000 in
set_option maxHeartbeats 800000 in
theorem check_any (b : Bool) (g m cap : Nat) (Ls : List (List Nat)) (w : World) (h : Rows g m Ls w) (hm : m ≤ 2) :
    Calls Try.prog 31 #[.bool b, .slice (some ⟨g, 0, none⟩) m cap] w fun e w' => e = .returned (.int .i64 (chk b Ls)) ∧ ∃ d, w' = w.drewN d := by
  have H := Lib.hid h
  clear h
  go_enter Try.func31, Try.ntmps31
  go_wp2
  go_loopw [9] (fun i wr => ∃ k : Nat, k ≤ m ∧ i = .int .i64 k ∧ Hid ((Ls.take k).all (fun L => L.all fin) = true) ∧ Hid (∃ d, wr = w.drewN d)) (fun i _ => m - (intOf i).toNat)
  case atStart => exact ⟨0, by omega, rfl, Lib.hid (by simp), Lib.hid ⟨0, rfl⟩⟩
  case round =>
    obtain ⟨k, hk, rfl, HP, HW⟩ := hrel
    by_cases hlt : k < m
    · have hdk : decide ((k : Int) < (m : Int)) = true := by simp; omega
      have HL := H.out.1
      obtain ⟨a, cp, hc, hC, hl⟩ := H.out.2 k hlt
      have p1 : wr.cell? ⟨g, k, none⟩ = some (.slice a (Ls.getD k []).length cp) := by obtain ⟨d, rfl⟩ := HW.out; rw [World.cell?_drewN]; exact hc
      have hC2 : CameF a (Ls.getD k []).length (Ls.getD k []) wr := by obtain ⟨d, rfl⟩ := HW.out; exact hC.below (below_drewN (Below.refl w.heap.size w) d) (Nat.le_refl _)
      have HP2 := Lib.hid (all_rows Ls k (by omega))
      have HAL := Lib.hid (all_bad Ls k (by omega))
      have HA := Lib.hid (areNum_any a _ cp _ wr hC2 hl)
      clear hc hC HL hC2 hl
      generalize (Ls.getD k []).all fin = t at *
      generalize (Ls.getD k []).length = q at *
      cases t
      · have HB := Lib.hid (HAL.out rfl)
        go_wp2_with fail
        refine HA.out.mono ?_
        rintro e w1 ⟨rfl, d, rfl⟩
        have HW2 : Hid (∃ d', wr.drewN d = w.drewN d') := Lib.hid (by obtain ⟨d0, h0⟩ := HW.out; exact ⟨_, by rw [h0, World.drewN_drewN]⟩)
        generalize wr.drewN d = w1 at *
        go_wp2
        go_ret
        exact ⟨by unfold chk; rw [HB.out]; rfl, HW2.out⟩
      · go_wp2_with fail
        refine HA.out.mono ?_
        rintro e w1 ⟨rfl, d, rfl⟩
        have HW2 : Hid (∃ d', wr.drewN d = w.drewN d') := Lib.hid (by obtain ⟨d0, h0⟩ := HW.out; exact ⟨_, by rw [h0, World.drewN_drewN]⟩)
        generalize wr.drewN d = w1 at *
        go_wp2
        exact ⟨⟨k + 1, by omega, by go_num, Lib.hid (by rw [HP2.out, HP.out]; rfl), HW2⟩, by simp [intOf]; omega⟩
    · obtain rfl : k = m := by omega
      have HA : Hid (Ls.all (fun L => L.all fin) = true) := Lib.hid (by have := HP.out; rwa [← H.out.1, List.take_length] at this)
      cases b
      · go_wp2
        go_ret
        exact ⟨by unfold chk; rw [HA.out]; rfl, HW.out⟩
      · go_wp2
        go_ret
        exact ⟨by unfold chk; rw [HA.out]; rfl, HW.out⟩

end Go.Proofs.Ytclflnpbiiimiaa

namespace Go.Proofs.Ytclflnpbiiimiaa
open Go Go.RowKit Go.Shelf

set_option maxRecDepth 100000 in
set_option maxHeartbeats 1600000 in
theorem build_any (n : Nat) (hn : n ≤ 64) (R : Nat → Nat → Prop) (g : Nat) (lb : Array Value) (hg : ∀ (j : Int) v, (callFunc g (#[.int .i64 j] ++ lb)).run Try.prog v = .ok (.enter g (#[.int .i64 j] ++ lb)) v)
    (w : World) (hT : Tells g lb n R w.heap.size w) :
    Calls Try.prog 32 #[.int .i64 n, .func (.func g) #[] lb] w fun e w' => ∃ L : List Nat, L.length = n ∧ (∀ j, j < n → R j (L.getD j 0)) ∧
      ((L.all fin = true ∧ ∃ v, e = .returned (.tuple #[v, .int .i64 0]) ∧ OwnF w.heap.size v L w') ∨ (L.all fin = false ∧ e = .returned (.tuple #[.slice none 0 0, .int .i64 3]))) ∧ Below w.heap.size w w' := by
  have HI := Lib.hid (inOrder_any n hn R g lb hg w hT)
  have HN := Lib.hid (numbersOf_any n hn R)
  clear hT hg
  go_enter Try.func32, Try.ntmps32
  go_wp2_with fail
  refine HI.out.mono ?_
  rintro e w1 ⟨⟨lb', rfl, hS⟩, hb1⟩
  have HS := Lib.hid hS
  have B1 := Lib.hid hb1
  clear hS hb1
  go_wp2_with fail
  refine (HN.out _ _ HS.out).mono ?_
  rintro e w2 ⟨v, L, rfl, hO, hlen, hR, hb2⟩
  have HO := Lib.hid (hO.mono B1.out.size)
  have HL := Lib.hid hlen
  have HRR := Lib.hid hR
  have B2 := Lib.hid (B1.out.trans (hb2.mono B1.out.size))
  have HF := Lib.hid (finNums_any _ v L w2 hO (by omega))
  clear hO hlen hR hb2
  go_wp2_with fail
  refine HF.out.mono ?_
  rintro e w3 ⟨⟨d, rfl⟩, h⟩
  have HO2 : Hid (OwnF w.heap.size v L (w2.drewN d)) := Lib.hid HO.out
  have B3 := Lib.hid (below_drewN B2.out d)
  generalize w2.drewN d = w3 at *
  clear HO B2 HF
  rcases h with ⟨h1, rfl⟩ | ⟨h1, rfl⟩
  · have HA := Lib.hid h1
    clear h1
    go_wp2_with fail
    go_ret2
    exact ⟨L, HL.out, HRR.out, .inl ⟨HA.out, v, rfl, HO2.out⟩, B3.out⟩
  · have HA := Lib.hid h1
    clear h1
    go_wp2_with fail
    go_ret2
    exact ⟨L, HL.out, HRR.out, .inr ⟨HA.out, rfl⟩, B3.out⟩

end Go.Proofs.Ytclflnpbiiimiaa
