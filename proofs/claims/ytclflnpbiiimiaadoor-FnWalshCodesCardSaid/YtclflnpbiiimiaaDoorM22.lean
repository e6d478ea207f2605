/- How the program asks whether lists are lists of numbers. Condition: as many numbers as a law lets in. How the program asks whether lists hold numbers and the rest is in its range. Condition: as many numbers as a law lets in. -/
import Derived.Test.YtclflnpbiiimiaaDoorM17
import Derived.Test.YtclflnpbiiimiaaDoorHq
namespace Go.Proofs.YtclflnpbiiimiaaDoor
open Go Go.RowKit

theorem any_snoc (p : Nat → Bool) (L : List Nat) (k : Nat) (hk : k < L.length) : (L.take (k + 1)).any p = ((L.take k).any p || p (L.getD k 0)) := by
  rw [take_succ_getDF L k hk, List.any_append]
  simp
theorem any_here (p : Nat → Bool) (L : List Nat) (k : Nat) (hk : k < L.length) (h : p (L.getD k 0) = true) : L.any p = true := by
  rw [List.any_eq_true]
  refine ⟨L.getD k 0, ?_, h⟩
  rw [List.getD_eq_getElem?_getD, List.getElem?_eq_getElem hk]
  exact List.getElem_mem hk

/-- a closure that asks something of a number -/
def Asks (f : FuncId) (p : Nat → Bool) : Prop := ∀ x w, Calls Tryd.prog f #[.float .f32 x] w fun e w' => e = .returned (.bool (p x)) ∧ ∃ d, w' = w.drewN d

set_option maxRecDepth 100000 in
set_option maxHeartbeats 800000 in
theorem indexF_any (f : FuncId) (p : Nat → Bool) (a : Option Addr) (n cap : Nat) (L : List Nat) (w : World) (h : CameF a n L w) (hn : n ≤ 1048576)
    (hE : ∀ (x : Nat) (v : World), (callFunc f #[.float .f32 x]).run Tryd.prog v = .ok (.enter f #[.float .f32 x]) v) (hf : Asks f p) :
    Calls Tryd.prog 88 #[.slice a n cap, .func (.func f) #[] #[]] w fun e w' => ∃ r : Int, e = .returned (.int .i64 r) ∧ decide (r ≥ 0) = L.any p ∧ ∃ d, w' = w.drewN d := by
  have H1 := Lib.hid h
  have HF := Lib.hid hf
  clear h hf
  go_enter Tryd.func88, Tryd.ntmps88
  go_wp2
  go_loopw [8] (fun i wr => ∃ k : Nat, k ≤ n ∧ i = .int .i64 k ∧ Hid ((L.take k).any p = false) ∧ Hid (∃ d, wr = w.drewN d)) (fun i _ => n - (intOf i).toNat)
  case atStart => exact ⟨0, by omega, rfl, Lib.hid (by simp), Lib.hid ⟨0, rfl⟩⟩
  case round =>
    obtain ⟨k, hk, rfl, HP, HW⟩ := hrel
    by_cases hlt : k < n
    · have hdk : decide ((k : Int) < (n : Int)) = true := by simp; omega
      have HL := H1.out.1
      obtain ⟨b1, o1, rfl, hb1, hc1⟩ := H1.out.2 (by omega)
      have p1 : wr.cell? ⟨b1, o1 + k, none⟩ = some (.float .f32 (L.getD k 0)) := by obtain ⟨d, rfl⟩ := HW.out; rw [World.cell?_drewN]; exact hc1 k hlt
      clear hb1 hc1
      have HP2 := Lib.hid (any_snoc p L k (by omega))
      have HAL := Lib.hid (any_here p L k (by omega))
      clear HL
      generalize L.getD k 0 = x at *
      obtain ⟨q, HQ⟩ : ∃ q, p x = q := ⟨_, rfl⟩
      have HX := Lib.hid HQ
      have HFX := HF.out x
      rw [HX.out] at HFX
      have HFX := Lib.hid HFX
      clear HQ
      cases q
      · go_wp2_with fail
        refine (HFX.out _).mono ?_
        rintro e w1 ⟨rfl, d, rfl⟩
        have HW2 : Hid (∃ d', wr.drewN d = w.drewN d') := Lib.hid (by obtain ⟨d0, h0⟩ := HW.out; exact ⟨_, by rw [h0, World.drewN_drewN]⟩)
        generalize wr.drewN d = w1 at *
        go_wp2
        exact ⟨⟨k + 1, by omega, by go_num, Lib.hid (by rw [HP2.out, HP.out, HX.out]; rfl), HW2⟩, by simp [intOf]; omega⟩
      · have HA := Lib.hid (HAL.out HX.out)
        go_wp2_with fail
        refine (HFX.out _).mono ?_
        rintro e w1 ⟨rfl, d, rfl⟩
        have HW2 : Hid (∃ d', wr.drewN d = w.drewN d') := Lib.hid (by obtain ⟨d0, h0⟩ := HW.out; exact ⟨_, by rw [h0, World.drewN_drewN]⟩)
        generalize wr.drewN d = w1 at *
        go_wp2
        go_ret
        exact ⟨_, rfl, by rw [HA.out]; simp, HW2.out⟩
    · obtain rfl : k = n := by omega
      have HL := H1.out.1
      have HA : Hid (L.any p = false) := Lib.hid (by have := HP.out; rwa [← HL, List.take_length] at this)
      go_wp2
      go_ret
      exact ⟨_, rfl, by rw [HA.out]; simp, HW.out⟩

set_option maxRecDepth 100000 in
theorem containsF_any (f : FuncId) (p : Nat → Bool) (a : Option Addr) (n cap : Nat) (L : List Nat) (w : World) (h : CameF a n L w) (hn : n ≤ 1048576)
    (hE : ∀ (x : Nat) (v : World), (callFunc f #[.float .f32 x]).run Tryd.prog v = .ok (.enter f #[.float .f32 x]) v) (hf : Asks f p) :
    Calls Tryd.prog 83 #[.slice a n cap, .func (.func f) #[] #[]] w fun e w' => e = .returned (.bool (L.any p)) ∧ ∃ d, w' = w.drewN d := by
  have HC := Lib.hid (indexF_any f p a n cap L w h hn hE hf)
  clear h hf hE
  go_enter Tryd.func83, Tryd.ntmps83
  go_wp2_with fail
  refine HC.out.mono ?_
  rintro e w1 ⟨r, rfl, hr, d, rfl⟩
  have HR := Lib.hid hr
  have HW : Hid (∃ d', w.drewN d = w.drewN d') := Lib.hid ⟨_, rfl⟩
  generalize w.drewN d = w1 at *
  clear hr
  go_wp2
  go_ret
  exact ⟨by rw [← HR.out]; rfl, HW.out⟩

theorem isNone_any : Asks 82 (fun x => !fin x) := by
  intro x w
  show Calls _ _ _ _ (fun e w' => e = .returned (.bool (!fin x)) ∧ ∃ d, w' = w.drewN d)
  have HF := Lib.hid (finite_any x)
  generalize fin x = b at *
  go_enter Tryd.func82, Tryd.ntmps82
  go_wp2_with fail
  refine (HF.out _).mono ?_
  rintro e w1 ⟨rfl, d, rfl⟩
  have HW : Hid (∃ d', w.drewN d = w.drewN d') := Lib.hid ⟨_, rfl⟩
  generalize w.drewN d = w1 at *
  go_wp2
  go_ret
  exact ⟨rfl, HW.out⟩

theorem not_any (L : List Nat) : (!L.any (fun x => !fin x)) = L.all fin := by
  induction L with
  | nil => rfl
  | cons x L ih => rw [List.any_cons, List.all_cons, Bool.not_or, Bool.not_not, ih]

set_option maxRecDepth 100000 in
theorem areNum_any (a : Option Addr) (n cap : Nat) (L : List Nat) (w : World) (h : CameF a n L w) (hn : n ≤ 1048576) :
    Calls Tryd.prog 71 #[.slice a n cap] w fun e w' => e = .returned (.bool (L.all fin)) ∧ ∃ d, w' = w.drewN d := by
  have HC := Lib.hid (containsF_any 82 _ a n cap L w h hn (fun x v => by simp [go_sem]) isNone_any)
  have HE := Lib.hid (not_any L)
  clear h
  generalize L.any (fun x => !fin x) = b at *
  go_enter Tryd.func71, Tryd.ntmps71
  go_wp2_with fail
  refine HC.out.mono ?_
  rintro e w1 ⟨rfl, d, rfl⟩
  have HW : Hid (∃ d', w.drewN d = w.drewN d') := Lib.hid ⟨_, rfl⟩
  generalize w.drewN d = w1 at *
  go_wp2
  go_ret
  exact ⟨by rw [← HE.out]; rfl, HW.out⟩

set_option maxRecDepth 100000 in
theorem finNums_any (B : Nat) (v : Value) (L : List Nat) (w : World) (h : OwnF B v L w) (hn : L.length ≤ 1048576) :
    Calls Tryd.prog 44 #[v] w fun e w' => (∃ d, w' = w.drewN d) ∧ ((L.all fin = true ∧ e = .returned (.tuple #[v, .int .i64 0])) ∨ (L.all fin = false ∧ e = .returned (.tuple #[.slice none 0 0, .int .i64 3]))) := by
  obtain ⟨a, cap, rfl, hC⟩ := h.came
  have HC := Lib.hid (areNum_any a L.length cap L w hC hn)
  generalize L.length = n at *
  clear h hC
  cases hb : L.all fin
  · rw [hb] at HC
    go_enter Tryd.func44, Tryd.ntmps44
    go_wp2_with fail
    refine HC.out.mono ?_
    rintro e w1 ⟨rfl, d, rfl⟩
    have HW : Hid (∃ d', w.drewN d = w.drewN d') := Lib.hid ⟨_, rfl⟩
    generalize w.drewN d = w1 at *
    go_wp2
    go_ret2
    exact ⟨HW.out, .inr ⟨by trivial, rfl⟩⟩
  · rw [hb] at HC
    go_enter Tryd.func44, Tryd.ntmps44
    go_wp2_with fail
    refine HC.out.mono ?_
    rintro e w1 ⟨rfl, d, rfl⟩
    have HW : Hid (∃ d', w.drewN d = w.drewN d') := Lib.hid ⟨_, rfl⟩
    generalize w.drewN d = w1 at *
    go_wp2
    go_ret2
    exact ⟨HW.out, .inl ⟨by trivial, rfl⟩⟩

end Go.Proofs.YtclflnpbiiimiaaDoor

namespace Go.Proofs.YtclflnpbiiimiaaDoor
open Go Go.RowKit

/-- the code for lists, and for the rest -/
def chk (b : Bool) (Ls : List (List Nat)) : Int := if Ls.all (fun L => L.all fin) = false then 1 else if b = true then 0 else 2
/-- lists that lie one by one in a block -/
def Rows (g m : Nat) (Ls : List (List Nat)) (w : World) : Prop := Ls.length = m ∧ ∀ i, i < m → ∃ a cap, w.cell? ⟨g, i, none⟩ = some (.slice a (Ls.getD i []).length cap) ∧ CameF a (Ls.getD i []).length (Ls.getD i []) w ∧ (Ls.getD i []).length ≤ 1048576
theorem all_rows (Ls : List (List Nat)) (k : Nat) (hk : k < Ls.length) : (Ls.take (k + 1)).all (fun L => L.all fin) = ((Ls.take k).all (fun L => L.all fin) && (Ls.getD k []).all fin) := by
  rw [List.take_add_one, List.getElem?_eq_getElem hk, List.all_append, List.getD_eq_getElem?_getD, List.getElem?_eq_getElem hk]
  simp
theorem all_bad (Ls : List (List Nat)) (k : Nat) (hk : k < Ls.length) (h : (Ls.getD k []).all fin = false) : Ls.all (fun L => L.all fin) = false := by
  rw [List.all_eq_false]
  refine ⟨Ls[k], List.getElem_mem hk, ?_⟩
  rw [List.getD_eq_getElem?_getD, List.getElem?_eq_getElem hk] at h
  simp only [Option.getD_some] at h
  rw [h]
  decide

set_option maxRecDepth 100000 in
set_option maxHeartbeats 800000 in
theorem check_any (b : Bool) (g m cap : Nat) (Ls : List (List Nat)) (w : World) (h : Rows g m Ls w) (hm : m ≤ 2) :
    Calls Tryd.prog 43 #[.bool b, .slice (some ⟨g, 0, none⟩) m cap] w fun e w' => e = .returned (.int .i64 (chk b Ls)) ∧ ∃ d, w' = w.drewN d := by
  have H := Lib.hid h
  clear h
  go_enter Tryd.func43, Tryd.ntmps43
  go_wp2
  go_loopw [9] (fun i wr => ∃ k : Nat, k ≤ m ∧ i = .int .i64 k ∧ Hid ((Ls.take k).all (fun L => L.all fin) = true) ∧ Hid (∃ d, wr = w.drewN d)) (fun i _ => m - (intOf i).toNat)
  case atStart => exact ⟨0, by omega, rfl, Lib.hid (by simp), Lib.hid ⟨0, rfl⟩⟩
  case round =>
    obtain ⟨k, hk, rfl, HP, HW⟩ := hrel
    by_cases hlt : k < m
    · have hdk : decide ((k : Int) < (m : Int)) = true := by simp; omega
      have HL := H.out.1
      obtain ⟨a, cp, hc, hC, hl⟩ := H.out.2 k hlt
      have p1 : wr.cell? ⟨g, k, none⟩ = some (.slice a (Ls.getD k []).length cp) := by obtain ⟨d, rfl⟩ := HW.out; rw [World.cell?_drewN]; exact hc
      have hC2 : CameF a (Ls.getD k []).length (Ls.getD k []) wr := by obtain ⟨d, rfl⟩ := HW.out; exact hC.below (below_drewN (Below.refl w.heap.size w) d) (Nat.le_refl _)
      have HP2 := Lib.hid (all_rows Ls k (by omega))
      have HAL := Lib.hid (all_bad Ls k (by omega))
      have HA := Lib.hid (areNum_any a _ cp _ wr hC2 hl)
      clear hc hC HL hC2 hl
      generalize (Ls.getD k []).all fin = t at *
      generalize (Ls.getD k []).length = q at *
      cases t
      · have HB := Lib.hid (HAL.out rfl)
        go_wp2_with fail
        refine HA.out.mono ?_
        rintro e w1 ⟨rfl, d, rfl⟩
        have HW2 : Hid (∃ d', wr.drewN d = w.drewN d') := Lib.hid (by obtain ⟨d0, h0⟩ := HW.out; exact ⟨_, by rw [h0, World.drewN_drewN]⟩)
        generalize wr.drewN d = w1 at *
        go_wp2
        go_ret
        exact ⟨by unfold chk; rw [HB.out]; rfl, HW2.out⟩
      · go_wp2_with fail
        refine HA.out.mono ?_
        rintro e w1 ⟨rfl, d, rfl⟩
        have HW2 : Hid (∃ d', wr.drewN d = w.drewN d') := Lib.hid (by obtain ⟨d0, h0⟩ := HW.out; exact ⟨_, by rw [h0, World.drewN_drewN]⟩)
        generalize wr.drewN d = w1 at *
        go_wp2
        exact ⟨⟨k + 1, by omega, by go_num, Lib.hid (by rw [HP2.out, HP.out]; rfl), HW2⟩, by simp [intOf]; omega⟩
    · obtain rfl : k = m := by omega
      have HA : Hid (Ls.all (fun L => L.all fin) = true) := Lib.hid (by have := HP.out; rwa [← H.out.1, List.take_length] at this)
      cases b
      · go_wp2
        go_ret
        exact ⟨by unfold chk; rw [HA.out]; rfl, HW.out⟩
      · go_wp2
        go_ret
        exact ⟨by unfold chk; rw [HA.out]; rfl, HW.out⟩

end Go.Proofs.YtclflnpbiiimiaaDoor
