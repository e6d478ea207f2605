/- How the program asks whether lists hold numbers and the rest is in its range. Condition: as many numbers as a law lets in. -/
import Derived.Test.YtclflnpbiiimiaaDoorRn
namespace Go.Proofs.YtclflnpbiiimiaaDoor
open Go Go.RowKit

/-- the code for lists, and for the rest -/
def chk (b : Bool) (Ls : List (List Nat)) : Int := if Ls.all (fun L => L.all fin) = false then 1 else if b = true then 0 else 2
/-- lists that lie one by one in a block -/
def Rows (g m : Nat) (Ls : List (List Nat)) (w : World) : Prop := Ls.length = m ∧ ∀ i, i < m → ∃ a cap, w.cell? ⟨g, i, none⟩ = some (.slice a (Ls.getD i []).length cap) ∧ CameF a (Ls.getD i []).length (Ls.getD i []) w ∧ (Ls.getD i []).length ≤ 1048576
theorem all_rows (Ls : List (List Nat)) (k : Nat) (hk : k < Ls.length) : (Ls.take (k + 1)).all (fun L => L.all fin) = ((Ls.take k).all (fun L => L.all fin) && (Ls.getD k []).all fin) := by
  rw [List.take_add_one, List.getElem?_eq_getElem hk, List.all_append, List.getD_eq_getElem?_getD, List.getElem?_eq_getElem hk]
  simp
theorem all_bad (Ls : List (List Nat)) (k : Nat) (hk : k < Ls.length) (h : (Ls.getD k []).all fin = false) : Ls.all (fun L => L.all fin) = false := by
  rw [List.all_eq_false]
  refine ⟨Ls[k], List.getElem_mem hk, ?_⟩
  rw [List.getD_eq_getElem?_getD, List.getElem?_eq_getElem hk] at h
  simp only [Option.getD_some] at h
  rw [h]
  decide

set_option maxRecDepth 100000 in
set_option maxHeartbeats 800000 in
theorem check_any (b : Bool) (g m cap : Nat) (Ls : List (List Nat)) (w : World) (h : Rows g m Ls w) (hm : m ≤ 2) :
    Calls Tryd.prog 43 #[.bool b, .slice (some ⟨g, 0, none⟩) m cap] w fun e w' => e = .returned (.int .i64 (chk b Ls)) ∧ ∃ d, w' = w.drewN d := by
  have H := Lib.hid h
  clear h
  go_enter Tryd.func43, Tryd.ntmps43
  go_wp2
  go_loopw [9] (fun i wr => ∃ k : Nat, k ≤ m ∧ i = .int .i64 k ∧ Hid ((Ls.take k).all (fun L => L.all fin) = true) ∧ Hid (∃ d, wr = w.drewN d)) (fun i _ => m - (intOf i).toNat)
  case atStart => exact ⟨0, by omega, rfl, Lib.hid (by simp), Lib.hid ⟨0, rfl⟩⟩
  case round =>
    obtain ⟨k, hk, rfl, HP, HW⟩ := hrel
    by_cases hlt : k < m
    · have hdk : decide ((k : Int) < (m : Int)) = true := by simp; omega
      have HL := H.out.1
      obtain ⟨a, cp, hc, hC, hl⟩ := H.out.2 k hlt
      have p1 : wr.cell? ⟨g, k, none⟩ = some (.slice a (Ls.getD k []).length cp) := by obtain ⟨d, rfl⟩ := HW.out; rw [World.cell?_drewN]; exact hc
      have hC2 : CameF a (Ls.getD k []).length (Ls.getD k []) wr := by obtain ⟨d, rfl⟩ := HW.out; exact hC.below (below_drewN (Below.refl w.heap.size w) d) (Nat.le_refl _)
      have HP2 := Lib.hid (all_rows Ls k (by omega))
      have HAL := Lib.hid (all_bad Ls k (by omega))
      have HA := Lib.hid (areNum_any a _ cp _ wr hC2 hl)
      clear hc hC HL hC2 hl
      generalize (Ls.getD k []).all fin = t at *
      generalize (Ls.getD k []).length = q at *
      cases t
      · have HB := Lib.hid (HAL.out rfl)
        go_wp2_with fail
        refine HA.out.mono ?_
        rintro e w1 ⟨rfl, d, rfl⟩
        have HW2 : Hid (∃ d', wr.drewN d = w.drewN d') := Lib.hid (by obtain ⟨d0, h0⟩ := HW.out; exact ⟨_, by rw [h0, World.drewN_drewN]⟩)
        generalize wr.drewN d = w1 at *
        go_wp2
        go_ret
        exact ⟨by unfold chk; rw [HB.out]; rfl, HW2.out⟩
      · go_wp2_with fail
        refine HA.out.mono ?_
        rintro e w1 ⟨rfl, d, rfl⟩
        have HW2 : Hid (∃ d', wr.drewN d = w.drewN d') := Lib.hid (by obtain ⟨d0, h0⟩ := HW.out; exact ⟨_, by rw [h0, World.drewN_drewN]⟩)
        generalize wr.drewN d = w1 at *
        go_wp2
        exact ⟨⟨k + 1, by omega, by go_num, Lib.hid (by rw [HP2.out, HP.out]; rfl), HW2⟩, by simp [intOf]; omega⟩
    · obtain rfl : k = m := by omega
      have HA : Hid (Ls.all (fun L => L.all fin) = true) := Lib.hid (by have := HP.out; rwa [← H.out.1, List.take_length] at this)
      cases b
      · go_wp2
        go_ret
        exact ⟨by unfold chk; rw [HA.out]; rfl, HW.out⟩
      · go_wp2
        go_ret
        exact ⟨by unfold chk; rw [HA.out]; rfl, HW.out⟩

end Go.Proofs.YtclflnpbiiimiaaDoor
