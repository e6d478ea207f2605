/- What the laws do to lists of lists of whole numbers: their sizes, a copy, a comparison, marks. Condition: as many numbers as a law lets in. -/
import Derived.Test.YtjmfffgddmnkmabVs
import Derived.Lib.Hide
import Derived.Deep.Draws
import Derived.Deep.RegionHeld3
import Derived.Deep.RegionLaw
namespace Go.Proofs.Ytjmfffgddmnkmab
open Go Go.RowKit

theorem szI_neg (ad : Option Addr) (n cap : Nat) (l : Int) (h0 : 0 ≤ l) (h1 : l ≤ 1048576) (hn : n ≤ 9223372036854775807) (hl : l - n < 0) (w : World) :
    Calls Try.prog 113 #[.slice ad n cap, .int .i64 l] w fun e w' => e = .returned (.int .i64 (-1)) ∧ w = w' := by
  have hw : IntKind.i64.wrap (l - n) = l - n := IntWalk.i64_in _ (by omega)
  have hd : decide (l - n < 0) = true := by simpa using hl
  have HX : Hid (0 ≤ l ∧ l ≤ 1048576) := Lib.hid ⟨h0, h1⟩
  clear h0 h1 hl
  go_enter Try.func113, Try.ntmps113
  go_wp2_with fail
  go_ret
  exact ⟨rfl, rfl⟩
theorem szI_pos (ad : Option Addr) (n cap : Nat) (l : Int) (h0 : 0 ≤ l) (h1 : l ≤ 1048576) (hl : 0 ≤ l - n) (w : World) :
    Calls Try.prog 113 #[.slice ad n cap, .int .i64 l] w fun e w' => e = .returned (.int .i64 (l - n)) ∧ w = w' := by
  have hw : IntKind.i64.wrap (l - n) = l - n := IntWalk.i64_in _ (by omega)
  have hd : decide (l - n < 0) = false := by simp; omega
  have HX : Hid (0 ≤ l ∧ l ≤ 1048576) := Lib.hid ⟨h0, h1⟩
  clear h0 h1 hl
  go_enter Try.func113, Try.ntmps113
  go_wp2_with fail
  go_ret
  exact ⟨rfl, rfl⟩

/-- as many numbers as a law lets in -/
def FitS (Ls : List (List Int)) : Prop := Ls.length ≤ 1048576 ∧ ∀ i, i < Ls.length → (Ls.getD i []).length ≤ 1048576

set_option maxRecDepth 100000 in
set_option maxHeartbeats 800000 in
theorem szSS_any (ad : Option Addr) (cap : Nat) (Ls : List (List Int)) (w : World) (h : CameS ad Ls.length Ls w) (hn : Ls.length ≤ 9223372036854775807) (hr : ∀ i, i < Ls.length → (Ls.getD i []).length ≤ 9223372036854775807) :
    Calls Try.prog 53 #[.slice ad Ls.length cap, .int .i64 1048576] w fun e w' => ∃ r, e = .returned (.int .i64 r) ∧ w = w' ∧ (r < 0 ∨ FitS Ls) := by
  have HC := Lib.hid (fun i hi => CameS.at h i hi)
  have HR := Lib.hid hr
  clear h hr
  obtain ⟨n, hnn⟩ : ∃ n, n = Ls.length := ⟨_, rfl⟩
  rw [← hnn] at HC HR hn ⊢
  have HLN := Lib.hid hnn
  clear hnn
  have hw : IntKind.i64.wrap (1048576 - (n : Int)) = 1048576 - (n : Int) := IntWalk.i64_in _ (by omega)
  by_cases hneg : (1048576 : Int) - n < 0
  · have hd : decide ((1048576 : Int) - n < 0) = true := by simpa using hneg
    clear HC HR
    go_enter Try.func53, Try.ntmps53
    go_wp2_with fail
    go_ret
    exact ⟨_, rfl, rfl, .inl (by simp)⟩
  · have hd : decide ((1048576 : Int) - n < 0) = false := by simpa using hneg
    obtain ⟨x, hx⟩ : ∃ x, x = (1048576 : Int) - n := ⟨_, rfl⟩
    have hx0 : 0 ≤ x ∧ x ≤ 1048576 := by omega
    have hn2 : n ≤ 1048576 := by omega
    rw [← hx] at hw hd
    have HXE := Lib.hid hx.symm
    have HX0 := Lib.hid hx0
    have HN2 := Lib.hid hn2
    clear hneg hn hx hx0
    have hw2 : IntKind.i64.wrap (1048576 - (n : Int)) = x := by rw [HXE.out]; exact hw
    go_enter Try.func53, Try.ntmps53
    go_wp2_with fail
    go_loopw [1, 5] (fun q i wr => ∃ k : Nat, ∃ l : Int, k ≤ n ∧ i = .int .i64 k ∧ q = .int .i64 l ∧ 0 ≤ l ∧ l ≤ 1048576 ∧ Hid (∀ j, j < k → (Ls.getD j []).length ≤ 1048576) ∧ wr = w) (fun _ i _ => n - (intOf i).toNat)
    case atStart => exact ⟨0, x, by omega, rfl, rfl, HX0.out.1, HX0.out.2, Lib.hid (fun j hj => absurd hj (by omega)), rfl⟩
    case round =>
      obtain ⟨k, l, hk, rfl, rfl, l0, l1, HK, hw0⟩ := hrel
      obtain rfl : w = wr := hw0.symm
      by_cases hlt : k < n
      · have hdk : decide ((k : Int) < (n : Int)) = true := by simp; omega
        obtain ⟨b, off, ai, ci, rfl, hb, hc, _⟩ := HC.out k hlt
        have hm := HR.out k hlt
        obtain ⟨m, hmm⟩ : ∃ m, m = (Ls.getD k []).length := ⟨_, rfl⟩
        rw [← hmm] at hc hm
        have HM := Lib.hid hmm
        have HL : Hid (0 ≤ l ∧ l ≤ 1048576 ∧ m ≤ 9223372036854775807) := Lib.hid ⟨l0, l1, hm⟩
        clear hmm hb hm l0 l1
        by_cases hln : l - (m : Int) < 0
        · have HLL := Lib.hid hln
          clear hln
          go_wp2_with fail
          refine (szI_neg ai m ci l HL.out.1 HL.out.2.1 HL.out.2.2 HLL.out _).mono ?_
          rintro e w1 ⟨rfl, rfl⟩
          go_wp2_with fail
          go_ret
          exact ⟨_, rfl, rfl, .inl (by omega)⟩
        · have HLL : Hid (0 ≤ l - (m : Int)) := Lib.hid (by omega)
          have hd2 : decide (l - (m : Int) < 0) = false := by simpa using hln
          clear hln
          go_wp2_with fail
          refine (szI_pos ai m ci l HL.out.1 HL.out.2.1 HLL.out _).mono ?_
          rintro e w1 ⟨rfl, rfl⟩
          go_wp2_with fail
          have h1 := HL.out
          have h2 := HLL.out
          exact ⟨⟨k + 1, l - m, by omega, by go_num, rfl, h2, by omega, Lib.hid (fun j hj => by
            rcases Nat.lt_or_ge j k with h | h
            · exact HK.out j h
            · obtain rfl : j = k := by omega
              rw [← HM.out]
              omega), by trivial⟩, by simp [intOf]; omega⟩
      · obtain rfl : k = n := by omega
        have HX : Hid (0 ≤ l) := Lib.hid l0
        go_wp2_with fail
        go_ret
        exact ⟨_, rfl, rfl, .inr ⟨by rw [← HLN.out]; exact HN2.out, fun i hi => HK.out i (by rw [HLN.out]; exact hi)⟩⟩

theorem infoS : (Try.prog.info? 36).map (fun i => (i.zero, i.size, i.bytes)) = some (some (.slice none 0 0), 1, 24) := by kernel_rfl

theorem ownsRow_below {B C n sz : Nat} {ty : TypeId} {v : Value} {xs : List Value} {w u : World} (h : w.ownsRow B ty sz v n xs) (k : Below C w u) (hC : w.heap.size ≤ C) : u.ownsRow B ty sz v n xs := by
  refine ⟨h.1, ?_⟩
  rcases h.2 with h2 | ⟨g, cap, cur, hv, hb, hg, r⟩
  · exact .inl h2
  · have hlt : g < w.heap.size := (Array.getElem?_eq_some_iff.1 hg).1
    exact .inr ⟨g, cap, cur, hv, hb, by rw [k.block g (by omega)]; exact hg, r⟩

/-- the first k headers are there, the others are empty -/
def HeadS (W n : Nat) (Ls : List (List Int)) (k : Nat) (u : World) : Prop :=
  ∃ hs : List Value, hs.length = k ∧ u.ownsRow W 36 1 (.slice (some ⟨W, 0, none⟩) n n) n (hs ++ List.replicate (n - k) (.slice none 0 0)) ∧ (∀ i, i < k → ∃ vi, hs[i]? = some vi ∧ Own (W + 1) vi (Ls.getD i []) u) ∧
    ∀ (i j : Nat) (vi vj : Value) (q : Nat), i < j → hs[i]? = some vi → hs[j]? = some vj → vi.ownBlock = some q → vj.ownBlock ≠ some q

theorem HeadS.lt {W n k : Nat} {Ls : List (List Int)} {u : World} (h : HeadS W n Ls k u) : W < u.heap.size := by
  obtain ⟨hs, _, h1, _⟩ := h
  exact (World.ownsRow.lt h1 W rfl).2
theorem HeadS.free {W n k : Nat} {Ls : List (List Int)} {u : World} (h : HeadS W n Ls k u) (q : Nat) : u.frozen? ⟨W, q, none⟩ = false := by
  obtain ⟨hs, _, h1, _⟩ := h
  exact World.ownsRow.frozenAt h1 _
theorem HeadS.cell {W n k : Nat} {Ls : List (List Int)} {u : World} (h : HeadS W n Ls k u) (q : Nat) (hq : q < n) : ∃ y, u.cell? ⟨W, q, none⟩ = some y := by
  obtain ⟨hs, _, h1, _⟩ := h
  have hl := h1.1
  exact ⟨_, (World.ownsRow.cellAt h1 q (by omega)).trans (List.getElem?_eq_getElem (by omega))⟩
theorem HeadS.below {W n k C : Nat} {Ls : List (List Int)} {u v : World} (h : HeadS W n Ls k u) (b : Below C u v) (hC : u.heap.size ≤ C) : HeadS W n Ls k v := by
  obtain ⟨hs, hl, h1, hr, hp⟩ := h
  refine ⟨hs, hl, ownsRow_below h1 b hC, fun i hi => ?_, hp⟩
  obtain ⟨vi, e, o⟩ := hr i hi
  exact ⟨vi, e, o.below b hC⟩
theorem HeadS.step {W n k : Nat} {Ls : List (List Int)} {u u' : World} {v : Value} (h : HeadS W n Ls k u) (hk : k < n) (b : Below u.heap.size u u') (hv : Own u.heap.size v (Ls.getD k []) u') : HeadS W n Ls (k + 1) (u'.setCell ⟨W, k, none⟩ v) := by
  have hW := h.lt
  obtain ⟨hs, hl, h10, hr, hp⟩ := h
  have h1 := ownsRow_below h10 b (Nat.le_refl _)
  refine ⟨hs ++ [v], by rw [List.length_append, hl]; rfl, ?_, fun i hi => ?_, fun i j vi vj q hij hi hj hq => ?_⟩
  · have h2 := (World.ownsRow.stored h1 k v).1
    obtain ⟨m, hm⟩ : ∃ m, n - k = m + 1 := ⟨n - k - 1, by omega⟩
    have hm2 : n - (k + 1) = m := by omega
    rw [hm, List.replicate_succ, List.set_append_right _ _ (by omega), hl, Nat.sub_self, List.set_cons_zero] at h2
    rw [hm2, List.append_assoc]
    exact h2
  · rcases Nat.lt_or_ge i k with h | h
    · obtain ⟨vi, e, o⟩ := hr i h
      exact ⟨vi, by rw [List.getElem?_append_left (by omega)]; exact e, ownsRow_setCell_below (o.below b (Nat.le_refl _)) (by show W < W + 1; omega) v⟩
    · obtain rfl : i = k := by omega
      exact ⟨v, by rw [List.getElem?_append_right (by omega), hl, Nat.sub_self]; rfl, ownsRow_setCell_below (hv.mono (by omega)) (by show W < W + 1; omega) v⟩
  · have hjl : j < k + 1 := by
      have := (List.getElem?_eq_some_iff.1 hj).1
      rw [List.length_append, hl] at this
      exact this
    have hi2 : hs[i]? = some vi := by rw [List.getElem?_append_left (by omega)] at hi; exact hi
    rcases Nat.lt_or_ge j k with h | h
    · rw [List.getElem?_append_left (by omega)] at hj
      exact hp i j vi vj q hij hi2 hj hq
    · obtain rfl : j = k := by omega
      rw [List.getElem?_append_right (by omega), hl, Nat.sub_self, List.getElem?_cons_zero] at hj
      cases hj
      intro hq2
      have r2 := hv.rng q hq2
      obtain ⟨vi2, e, o⟩ := hr i (by omega)
      rw [hi2] at e
      cases e
      have r1 := o.rng q hq
      omega
theorem HeadS.zero {W n : Nat} {Ls : List (List Int)} {u : World} (h : u.ownsRow W 36 1 (.slice (some ⟨W, 0, none⟩) n n) n (madeCells #[.slice none 0 0] n).toList) : HeadS W n Ls 0 u := by
  refine ⟨[], rfl, ?_, fun i hi => absurd hi (by omega), fun i j vi vj q _ hi => by simp at hi⟩
  rw [toList_madeCells_one] at h
  exact h
theorem HeadS.all {W : Nat} {Ls : List (List Int)} {u : World} (h : HeadS W Ls.length Ls Ls.length u) : OwnS W (.slice (some ⟨W, 0, none⟩) Ls.length Ls.length) Ls u := by
  obtain ⟨hs, hl, h1, hr, hp⟩ := h
  rw [Nat.sub_self, List.replicate_zero, List.append_nil] at h1
  refine ⟨hs, h1, ⟨fun i vi q hi hq e => ?_, hp⟩, fun i hi => ?_⟩
  · have hil : i < Ls.length := by rw [← hl]; exact (List.getElem?_eq_some_iff.1 hi).1
    obtain ⟨vi2, e2, o⟩ := hr i hil
    rw [hi] at e2
    cases e2
    have r1 := o.rng q hq
    injection e with e
    have : W = q := e
    omega
  · obtain ⟨vi, e, o⟩ := hr i hi
    exact ⟨vi, e, o.mono (by omega)⟩

set_option maxRecDepth 100000 in
set_option maxHeartbeats 800000 in
theorem toSS_any (ad : Option Addr) (cap : Nat) (Ls : List (List Int)) (w : World) (h : CameS ad Ls.length Ls w) (hF : FitS Ls) :
    Calls Try.prog 55 #[.slice ad Ls.length cap] w fun e w' => ∃ v, e = .returned v ∧ OwnS w.heap.size v Ls w' ∧ Below w.heap.size w w' := by
  obtain ⟨i0, hi, hz0, hz1, hz2⟩ := info_parts infoS
  have HC := Lib.hid (fun i hi => CameS.at h i hi)
  have HR := Lib.hid hF.2
  have hn := hF.1
  clear h hF
  obtain ⟨n, hnn⟩ : ∃ n, n = Ls.length := ⟨_, rfl⟩
  rw [← hnn] at HC HR hn ⊢
  have HN := Lib.hid hnn
  clear hnn
  go_enter Try.func55, Try.ntmps55
  go_wp2_with (refine wpList_make_full _ rfl _ _ 66 rfl w.heap.size 36 i0 (.slice none 0 0) 1 Try.underlying66 hi hz0 hz1 .i64 .i64 n n n rfl rfl rfl rfl ?b2 ?b3 (Nat.le_refl _) ?_)
  case b2 => rw [hz2]; omega
  case b3 => unfold maxLen; omega
  intro w1 hown hgrow
  have O1 : Hid (HeadS w.heap.size n Ls 0 w1) := Lib.hid (HeadS.zero hown)
  have B1 : Hid (Below w.heap.size w w1) := Lib.hid ((Below.refl _ _).grown hgrow (Nat.le_refl _) (fun k hk => by cases hk))
  clear hown hgrow hi hz0 hz1 hz2
  go_wp2
  go_loopw [4] (fun i wr => ∃ k : Nat, k ≤ n ∧ i = .int .i64 k ∧ Hid (HeadS w.heap.size n Ls k wr) ∧ Hid (Below w.heap.size w wr)) (fun i _ => n - (intOf i).toNat)
  case atStart => exact ⟨0, by omega, rfl, O1, B1⟩
  case round =>
    obtain ⟨k, hk, rfl, O2, B2⟩ := hrel
    by_cases hlt : k < n
    · have hdk : decide ((k : Int) < (n : Int)) = true := by simp; omega
      obtain ⟨b, off, ai, ci, rfl, hb, hc, hcm⟩ := HC.out k hlt
      have c := (B2.out.cell (p := ⟨b, off + k, none⟩) hb).trans hc
      have HCM := Lib.hid (hcm.below B2.out (Nat.le_refl _))
      have HM := Lib.hid (HR.out k hlt)
      obtain ⟨m, hmm⟩ : ∃ m, m = (Ls.getD k []).length := ⟨_, rfl⟩
      rw [← hmm] at c HCM HM
      clear hb hc hcm hmm
      go_wp2_with fail
      refine (toInt_any ai m ci (Ls.getD k []) _ HCM.out HM.out).mono ?_
      rintro e w3 ⟨v, rfl, o3, k3⟩
      have H3 := Lib.hid (O2.out.step hlt k3 o3)
      have B3 : Hid (Below w.heap.size w w3) := Lib.hid (B2.out.trans (k3.mono B2.out.size))
      have B4 : Hid (Below w.heap.size w (w3.setCell ⟨w.heap.size, k, none⟩ v)) := Lib.hid (B3.out.setCell (p := ⟨w.heap.size, k, none⟩) (Nat.le_refl _) v)
      have hh := O2.out.below k3 (Nat.le_refl _)
      have f := hh.free k
      obtain ⟨y, hy⟩ := hh.cell k hlt
      obtain ⟨av, cv, rfl, _⟩ := o3.came
      clear o3 k3 hh HCM
      go_wp2
      exact ⟨⟨k + 1, by omega, by go_num, H3, B4⟩, by simp [intOf]; omega⟩
    · obtain rfl : k = n := by omega
      have O3 : Hid (OwnS w.heap.size (.slice (some ⟨w.heap.size, 0, none⟩) k k) Ls wr) := Lib.hid (by
        have := O2.out
        rw [HN.out] at this ⊢
        exact this.all)
      go_wp2
      go_ret
      exact ⟨_, rfl, O3.out, B2.out⟩

theorem CameS.two {n : Nat} {a1 a2 : Option Addr} {Ls : List (List Int)} {w : World} (h1 : CameS a1 n Ls w) (h2 : CameS a2 n Ls w) (i : Nat) (hi : i < n) :
    ∃ b1 o1 b2 o2 x1 c1 x2 c2, a1 = some ⟨b1, o1, none⟩ ∧ a2 = some ⟨b2, o2, none⟩ ∧ b1 < w.heap.size ∧ b2 < w.heap.size ∧ w.cell? ⟨b1, o1 + i, none⟩ = some (.slice x1 (Ls.getD i []).length c1) ∧ w.cell? ⟨b2, o2 + i, none⟩ = some (.slice x2 (Ls.getD i []).length c2) ∧ Came x1 (Ls.getD i []).length (Ls.getD i []) w ∧ Came x2 (Ls.getD i []).length (Ls.getD i []) w := by
  obtain ⟨b1, o1, x1, c1, e1, hb1, hc1, k1⟩ := h1.at i hi
  obtain ⟨b2, o2, x2, c2, e2, hb2, hc2, k2⟩ := h2.at i hi
  exact ⟨b1, o1, b2, o2, x1, c1, x2, c2, e1, e2, hb1, hb2, hc1, hc2, k1, k2⟩

set_option maxRecDepth 100000 in
set_option maxHeartbeats 800000 in
theorem eqSS_yes (a1 a2 : Option Addr) (p1 p2 : Nat) (Ls : List (List Int)) (w : World) (h1 : CameS a1 Ls.length Ls w) (h2 : CameS a2 Ls.length Ls w) (hF : FitS Ls) :
    Calls Try.prog 58 #[.slice a1 Ls.length p1, .slice a2 Ls.length p2] w fun e w' => e = .returned (.bool true) ∧ Below w.heap.size w w' := by
  have H12 := Lib.hid (fun i hi => CameS.two h1 h2 i hi)
  have HR := Lib.hid hF.2
  have hn := hF.1
  clear h1 h2 hF
  obtain ⟨n, hnn⟩ : ∃ n, n = Ls.length := ⟨_, rfl⟩
  rw [← hnn] at H12 HR hn ⊢
  clear hnn
  have hnn : ((n : Int) != n) = false := by simp
  go_enter Try.func58, Try.ntmps58
  go_wp2
  go_loopw [5] (fun i wr => ∃ k : Nat, k ≤ n ∧ i = .int .i64 k ∧ Hid (Below w.heap.size w wr)) (fun i _ => n - (intOf i).toNat)
  case atStart => exact ⟨0, by omega, rfl, Lib.hid (Below.refl _ _)⟩
  case round =>
    obtain ⟨k, hk, rfl, HW⟩ := hrel
    by_cases hlt : k < n
    · have hdk : decide ((k : Int) < (n : Int)) = true := by simp; omega
      obtain ⟨b1, o1, b2, o2, x1, c1, x2, c2, rfl, rfl, hb1, hb2, hc1, hc2, k1, k2⟩ := H12.out k hlt
      have HM := Lib.hid (HR.out k hlt)
      have CC : Hid (∀ w', Below w.heap.size w w' → w'.cell? ⟨b1, o1 + k, none⟩ = some (.slice x1 (Ls.getD k []).length c1) ∧ w'.cell? ⟨b2, o2 + k, none⟩ = some (.slice x2 (Ls.getD k []).length c2)) :=
        Lib.hid (fun w' h => ⟨(h.cell (p := ⟨b1, o1 + k, none⟩) hb1).trans hc1, (h.cell (p := ⟨b2, o2 + k, none⟩) hb2).trans hc2⟩)
      have KK : Hid (∀ w', Below w.heap.size w w' → Came x1 (Ls.getD k []).length (Ls.getD k []) w' ∧ Came x2 (Ls.getD k []).length (Ls.getD k []) w') := Lib.hid (fun w' h => ⟨k1.below h (Nat.le_refl _), k2.below h (Nat.le_refl _)⟩)
      clear hb1 hb2 hc1 hc2 k1 k2
      obtain ⟨m, hmm⟩ : ∃ m, m = (Ls.getD k []).length := ⟨_, rfl⟩
      rw [← hmm] at CC KK HM
      clear hmm
      go_wp2
      refine wp_region_noPanic ?_
      refine wp_region_held_drew (S := Below w.heap.size w) (by kernel_rfl) HW.out.drew (fun hHeld => ?_)

      refine wpAnyH_take (i := 0) (v := .slice (some ⟨b1, o1, none⟩) n p1) rfl (by kernel_rfl) (by kernel_rfl) (by kernel_rfl) (fun _ _ _ h => h) (Or.inl ⟨by rfl, fun w' hSw => by have c0 := (CC.out w' hSw).1; have c1 := (CC.out w' hSw).2; go_simp⟩) hHeld ?_
      simp only [Act.put]
      refine wpAnyH_take (i := 1) (v := .int .i64 k) rfl (by kernel_rfl) (by kernel_rfl) (by kernel_rfl) (fun _ _ _ h => h) (Or.inl ⟨by rfl, fun w' hSw => by have c0 := (CC.out w' hSw).1; have c1 := (CC.out w' hSw).2; go_simp⟩) hHeld ?_
      simp only [Act.put]
      refine wpAnyH_take (i := 2) (v := .pointer (some ⟨b1, o1 + k, none⟩)) rfl (by kernel_rfl) (by kernel_rfl) (by kernel_rfl) (fun _ _ _ h => h) (Or.inl ⟨by rfl, fun w' hSw => by have c0 := (CC.out w' hSw).1; have c1 := (CC.out w' hSw).2; go_simp⟩) hHeld ?_
      simp only [Act.put]
      refine wpAnyH_take (i := 3) (v := .slice x1 m c1) rfl (by kernel_rfl) (by kernel_rfl) (by kernel_rfl) (fun _ _ _ h => h) (Or.inl ⟨by rfl, fun w' hSw => by have c0 := (CC.out w' hSw).1; have c1 := (CC.out w' hSw).2; go_simp⟩) hHeld ?_
      simp only [Act.put]
      refine wpAnyH_take (i := 4) (v := .slice (some ⟨b2, o2, none⟩) n p2) rfl (by kernel_rfl) (by kernel_rfl) (by kernel_rfl) (fun _ _ _ h => h) (Or.inl ⟨by rfl, fun w' hSw => by have c0 := (CC.out w' hSw).1; have c1 := (CC.out w' hSw).2; go_simp⟩) hHeld ?_
      simp only [Act.put]
      refine wpAnyH_take (i := 5) (v := .int .i64 k) rfl (by kernel_rfl) (by kernel_rfl) (by kernel_rfl) (fun _ _ _ h => h) (Or.inl ⟨by rfl, fun w' hSw => by have c0 := (CC.out w' hSw).1; have c1 := (CC.out w' hSw).2; go_simp⟩) hHeld ?_
      simp only [Act.put]
      refine wpAnyH_take (i := 6) (v := .pointer (some ⟨b2, o2 + k, none⟩)) rfl (by kernel_rfl) (by kernel_rfl) (by kernel_rfl) (fun _ _ _ h => h) (Or.inl ⟨by rfl, fun w' hSw => by have c0 := (CC.out w' hSw).1; have c1 := (CC.out w' hSw).2; go_simp⟩) hHeld ?_
      simp only [Act.put]
      refine wpAnyH_take (i := 7) (v := .slice x2 m c2) rfl (by kernel_rfl) (by kernel_rfl) (by kernel_rfl) (fun _ _ _ h => h) (Or.inl ⟨by rfl, fun w' hSw => by have c0 := (CC.out w' hSw).1; have c1 := (CC.out w' hSw).2; go_simp⟩) hHeld ?_
      simp only [Act.put]
      refine wpAnyH_ready (rs := [8]) (by kernel_rfl) (by simp) ?_
      refine AllReadyH.cons (o := _) rfl (fun K hK => ?_) AllReadyH.nil
      rw [if_pos (by rfl)]
      go_simp
      refine (eqInt_yes x1 x2 m c1 c2 (Ls.getD k []) _ (KK.out _ hHeld).1 (KK.out _ hHeld).2 HM.out).mono ?_
      rintro e w3 ⟨rfl, k3⟩
      have hHeld3 := hHeld.trans (k3.mono hHeld.size)
      refine hK.out _ _ hHeld3 (fun _ => ?_)
      clear hK K
      refine wpAnyH_take (i := 9) (v := .bool false) rfl (by kernel_rfl) (by kernel_rfl) (by kernel_rfl) (fun _ _ _ h => h) (Or.inl ⟨by rfl, fun w' hSw => by go_simp⟩) hHeld3 ?_
      simp only [Act.put]
      refine wpAnyH_done (by kernel_rfl) ?_ _
      refine NoPanic.normal ?_
      have HW3 : Hid (Below w.heap.size w w3) := Lib.hid hHeld3
      clear k3 hHeld hHeld3 CC KK
      go_wp2
      exact ⟨⟨k + 1, by omega, by go_num, HW3⟩, by simp [intOf]; omega⟩
    · obtain rfl : k = n := by omega
      go_wp2
      go_ret
      exact ⟨rfl, HW.out⟩

end Go.Proofs.Ytjmfffgddmnkmab
