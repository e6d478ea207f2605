/- What the laws' marks do to lists of lists of whole numbers: they write in these lists alone. Condition: as many numbers as a law lets in. -/
import Derived.Test.YtjmfffgddmnkmabVt
namespace Go.Proofs.Ytjmfffgddmnkmab
open Go Go.RowKit

/-- the first k numbers marked, from s on -/
def mpreI (s : Int) (L : List Int) (k : Nat) : List Int := marks k s ++ L.drop k
theorem mpreI_len (s : Int) (L : List Int) (k : Nat) (hk : k ≤ L.length) : (mpreI s L k).length = L.length := by
  unfold mpreI; rw [List.length_append, marks_len, List.length_drop]; omega
theorem mpreI_set (s : Int) (L : List Int) (k : Nat) (hk : k < L.length) : (mpreI s L k).set k (s + (k : Int)) = mpreI s L (k + 1) := by
  unfold mpreI
  rw [List.set_append_right _ _ (by rw [marks_len]; omega), marks_len, Nat.sub_self, List.drop_eq_getElem_cons hk, List.set_cons_zero]
  simp [marks, List.range_succ]

set_option maxRecDepth 100000 in
set_option maxHeartbeats 800000 in
theorem markI_any (s : Int) (B : Nat) (v : Value) (L : List Int) (w : World) (h : Own B v L w) (hs0 : 0 ≤ s) (hs1 : s ≤ 1125899906842624) (hn : L.length ≤ 1048576) :
    Calls Try.prog 40 #[v, .int .i64 s] w fun e w' => e = .returned (.int .i64 (s + (L.length : Int))) ∧ w.grownBy w' v.ownBlock ∧ w'.heap.size = w.heap.size := by
  rcases h.kind with ⟨rfl, rfl⟩ | ⟨g, cap, rfl, hb, hg⟩
  · go_enter Try.func40, Try.ntmps40
    go_wp2
    refine wp_loop_rounds 1 ?_
    rw [rounds_succ]
    go_wp2
    go_ret
    exact ⟨by simp, ⟨rfl, rfl, rfl, Nat.le_refl _, fun _ _ _ => rfl⟩, rfl⟩
  · have H1 := Lib.hid h
    clear h
    generalize hm : L.length = n at *
    have HM := Lib.hid hm
    clear hm
    have G1 : Hid (w.grownBy w (some g)) := Lib.hid ⟨rfl, rfl, rfl, Nat.le_refl _, fun _ _ _ => rfl⟩
    have O1 : Hid (Own B (.slice (some ⟨g, 0, none⟩) n cap) (mpreI s L 0) w) := Lib.hid (by simpa [mpreI, marks] using H1.out)
    go_enter Try.func40, Try.ntmps40
    go_wp2
    go_loopw [1, 5] (fun q i wr => ∃ k : Nat, k ≤ n ∧ i = .int .i64 k ∧ q = .int .i64 (s + (k : Int)) ∧ Hid (Own B (.slice (some ⟨g, 0, none⟩) n cap) (mpreI s L k) wr) ∧ Hid (w.grownBy wr (some g)) ∧ Hid (wr.heap.size = w.heap.size)) (fun _ i _ => n - (intOf i).toNat)
    case atStart => exact ⟨0, by omega, rfl, by simp, O1, G1, Lib.hid rfl⟩
    case round =>
      obtain ⟨k, hk, rfl, rfl, O2, G2, HS⟩ := hrel
      by_cases hlt : k < n
      · have hdk : decide ((k : Int) < (n : Int)) = true := by simp; omega
        have hl := mpreI_len s L k (by rw [HM.out]; exact hk)
        rw [HM.out] at hl
        have o2 : Own B (.slice (some ⟨g, 0, none⟩) (mpreI s L k).length cap) (mpreI s L k) wr := by rw [hl]; exact O2.out
        have f := o2.free k
        have c2 := o2.cell k (by omega)
        have O3 : Hid (Own B (.slice (some ⟨g, 0, none⟩) n cap) (mpreI s L (k + 1)) (wr.setCell ⟨g, k, none⟩ (.int .i64 (s + (k : Int))))) := by
          refine Lib.hid ?_
          have := o2.stored k (s + (k : Int))
          rw [mpreI_set s L k (by rw [HM.out]; exact hlt), hl] at this
          exact this
        have G3 : Hid (w.grownBy (wr.setCell ⟨g, k, none⟩ (.int .i64 (s + (k : Int)))) (some g)) := by
          refine Lib.hid ?_
          have g1 := G2.out
          refine ⟨g1.os, g1.tape, g1.output, by simpa [World.setCell] using g1.size, fun j hj hne => ?_⟩
          rw [Below.heap_setCell _ _ _ _ (fun e => hne (by rw [e]))]
          exact g1.block j hj hne
        have HS3 : Hid ((wr.setCell ⟨g, k, none⟩ (.int .i64 (s + (k : Int)))).heap.size = w.heap.size) := Lib.hid (by rw [← HS.out]; simp [World.setCell])
        clear hl o2
        generalize (mpreI s L k).getD k 0 = y at *
        go_wp2
        exact ⟨⟨k + 1, by omega, by go_num, by go_num, O3, G3, HS3⟩, by simp [intOf]; omega⟩
      · obtain rfl : k = n := by omega
        go_wp2
        go_ret
        exact ⟨rfl, G2.out, HS.out⟩

/-- while lists are marked: the headers are as they were, the lists from k on are there -/
def Left (B g : Nat) (n k : Nat) (hs : List Value) (Ls : List (List Int)) (u : World) : Prop :=
  (∀ i, i < n → u.cell? ⟨g, i, none⟩ = hs[i]?) ∧ ∀ j, k ≤ j → j < n → ∃ vj, hs[j]? = some vj ∧ Own B vj (Ls.getD j []) u
theorem Left.step {B g n k : Nat} {hs : List Value} {Ls : List (List Int)} {u v : World} {vk : Value} (h : Left B g n k hs Ls u) (hg : g < u.heap.size) (hp1 : ∀ q, vk.ownBlock = some q → g ≠ q)
    (hp2 : ∀ (j : Nat) (vj : Value) (q : Nat), k < j → hs[j]? = some vj → vk.ownBlock = some q → vj.ownBlock ≠ some q) (b : u.grownBy v vk.ownBlock) : Left B g n (k + 1) hs Ls v := by
  refine ⟨fun i hi => ?_, fun j hj hjn => ?_⟩
  · rw [← h.1 i hi]
    refine World.cell?_of_block (w := u) (b.block g hg ?_)
    intro e
    exact hp1 g e.symm rfl
  · obtain ⟨vj, e, o⟩ := h.2 j (by omega) hjn
    refine ⟨vj, e, World.ownsRow.kept o b ?_⟩
    cases hb : vj.ownBlock
    · exact .inl rfl
    · rename_i q
      right
      intro e2
      exact hp2 j vj q (by omega) e e2.symm hb

set_option maxRecDepth 100000 in
set_option maxHeartbeats 800000 in
theorem markSS_any (B : Nat) (v : Value) (Ls : List (List Int)) (u w : World) (h : OwnS B v Ls u) (b : Below u.heap.size u w) (hF : FitS Ls) :
    Calls Try.prog 59 #[v, .int .i64 1] w fun e w' => ∃ r, e = .returned (.int .i64 r) ∧ 0 ≤ r ∧ Zone B u.heap.size w w' := by
  obtain ⟨hs, h1u, hp, hru⟩ := h
  have h1 := ownsRow_below h1u b (Nat.le_refl _)
  have hr : ∀ i, i < Ls.length → ∃ vi, hs[i]? = some vi ∧ Own B vi (Ls.getD i []) w := fun i hi => by
    obtain ⟨vi, e, o⟩ := hru i hi
    exact ⟨vi, e, o.below b (Nat.le_refl _)⟩
  have HZQ : Hid (∀ (i : Nat) (vi : Value) (q : Nat), i < Ls.length → hs[i]? = some vi → vi.ownBlock = some q → B ≤ q ∧ q < u.heap.size) := Lib.hid (fun i vi q hi e hq => by
    obtain ⟨vi2, e2, o⟩ := hru i hi
    rw [e] at e2
    cases e2
    exact o.rng q hq)
  have hbs := b.size
  clear h1u hru b
  have hl := h1.1
  rw [Nat.mul_one] at hl
  have h1' := h1
  rcases h1'.2 with ⟨rfl, h0⟩ | ⟨g, cap, cur, rfl, hb, hg, _⟩
  · rw [h0] at *
    clear hr hp h1 h1' hF HZQ hbs
    go_enter Try.func59, Try.ntmps59
    go_wp2
    refine wp_loop_rounds 1 ?_
    rw [rounds_succ]
    go_wp2
    go_ret
    exact ⟨_, rfl, by omega, Zone.refl _ _ _⟩
  · have hlt : g < w.heap.size := (Array.getElem?_eq_some_iff.1 hg).1
    have L0 : Hid (Left B g Ls.length 0 hs Ls w) := Lib.hid ⟨fun i hi => World.ownsRow.cellAt h1 i (by omega), fun j _ hj => hr j hj⟩
    have HP1 : Hid (∀ (i : Nat) (vi : Value) (q : Nat), hs[i]? = some vi → vi.ownBlock = some q → g ≠ q) := Lib.hid (fun i vi q e1 e2 e3 => hp.1 i vi q e1 e2 (by rw [e3]; rfl))
    have HP2 := Lib.hid hp.2
    have HL := Lib.hid hl
    have HG : Hid (B ≤ g ∧ g < w.heap.size) := Lib.hid ⟨hb, hlt⟩
    have HR := Lib.hid hF.2
    have hn := hF.1
    obtain ⟨n, hnn⟩ : ∃ n, n = Ls.length := ⟨_, rfl⟩
    rw [← hnn] at L0 HL HR hn HZQ ⊢
    clear hr hp h1 h1' hF hl hb hlt hg hnn
    go_enter Try.func59, Try.ntmps59
    go_wp2
    go_loopw [1, 5] (fun q i wr => ∃ k : Nat, ∃ s : Int, k ≤ n ∧ i = .int .i64 k ∧ q = .int .i64 s ∧ Hid (0 ≤ s ∧ s ≤ 1 + (k : Int) * 1048576) ∧ Hid (Left B g n k hs Ls wr) ∧ Hid (Zone B u.heap.size w wr)) (fun _ i _ => n - (intOf i).toNat)
    case atStart => exact ⟨0, 1, by omega, rfl, rfl, Lib.hid ⟨by omega, by omega⟩, L0, Lib.hid (Zone.refl _ _ _)⟩
    case round =>
      obtain ⟨k, s, hk, rfl, rfl, HS, HLf, HZ⟩ := hrel
      by_cases hlt : k < n
      · have hdk : decide ((k : Int) < (n : Int)) = true := by simp; omega
        obtain ⟨vk, hvk, ok⟩ := HLf.out.2 k (Nat.le_refl _) hlt
        have c := (HLf.out.1 k hlt).trans hvk
        have OK := Lib.hid ok
        have HVK := Lib.hid hvk
        have HM := Lib.hid (HR.out k hlt)
        have hs2 : s ≤ 1125899906842624 := by
          have := HS.out.2
          have : (k : Int) * 1048576 ≤ 1048576 * 1048576 := Int.mul_le_mul_of_nonneg_right (by omega) (by omega)
          omega
        have HS2 := Lib.hid hs2
        obtain ⟨av, cv, e0, _⟩ := ok.came
        subst e0
        clear ok hvk hs2
        go_wp2_with fail
        refine (markI_any s B _ (Ls.getD k []) _ OK.out HS.out.1 HS2.out HM.out).mono ?_
        rintro e w3 ⟨rfl, g3, s3⟩
        have HL3 := Lib.hid (HLf.out.step (by have := HZ.out.size; have := HG.out; omega) (fun q e => HP1.out k _ q HVK.out e) (fun j vj q hj e1 e2 => HP2.out k j _ vj q hj HVK.out e1 e2) g3)
        have HZ3 : Hid (Zone B u.heap.size w w3) := Lib.hid (HZ.out.step g3 s3 (fun q e => HZQ.out k _ q hlt HVK.out e))
        have hs3 := HS.out
        have hm3 := HM.out
        clear g3 s3
        generalize hq : (((Ls.getD k []).length : Nat) : Int) = m at *
        have HSN : Hid (0 ≤ s + m ∧ s + m ≤ 1 + ((k + 1 : Nat) : Int) * 1048576) := Lib.hid (by
          have : m ≤ 1048576 := by omega
          have : 0 ≤ m := by omega
          have : ((k + 1 : Nat) : Int) * 1048576 = (k : Int) * 1048576 + 1048576 := by rw [Int.natCast_succ, Int.add_mul, Int.one_mul]
          omega)
        clear hs3 hm3 hq
        go_wp2_with fail
        exact ⟨⟨k + 1, s + m, by omega, by go_num, rfl, HSN, HL3, HZ3⟩, by simp [intOf]; omega⟩
      · obtain rfl : k = n := by omega
        have hs3 := HS.out.1
        go_wp2
        go_ret
        exact ⟨_, rfl, HS.out.1, HZ.out⟩

end Go.Proofs.Ytjmfffgddmnkmab
