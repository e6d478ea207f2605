/- What the laws do to lists of places: copy one, compare two, mark one and ask for the marks. Condition: as many places as a law lets in. -/
import Derived.Test.YtjmfffgddmnkmabPo
import Derived.Lib.Hide
import Derived.Deep.Draws
import Derived.Deep.RegionHeld3
import Derived.Deep.RegionLaw
import Derived.Test.YtjmfffgddmnkmabHeap
namespace Go.Proofs.Ytjmfffgddmnkmab
open Go Go.RowKit

theorem infoP_size : (Try.prog.info? 109).map (·.size) = some 2 := by kernel_rfl

set_option maxRecDepth 100000 in
theorem toPlace_any (r c : Int) (w : World) : Calls Try.prog 109 #[.agg #[.int .i64 r, .int .i64 c]] w fun e w' => e = .returned (.agg #[.int .i64 r, .int .i64 c]) ∧ Below w.heap.size w w' := by
  have a := Try.isAgg109
  have z := Try.sizeOf109
  have a2 := Try.isAgg111
  have z2 := Try.sizeOf111
  go_enter Try.func109, Try.ntmps109
  go_wp2
  refine bodyPost_ret (v := .agg #[.int .i64 r, .int .i64 c]) (results_cell_row (fn := Try.f109) (p := 2) (ty := 109) rfl _ _ (w.heap.size + 1) 109 #[.int .i64 r, .int .i64 c] (0, 0) _ rfl (h3_1 _ _ _ _) Try.underlying109 rfl infoP_size) rfl ⟨rfl, ?_⟩
  exact (((Below.refl _ _).alloc (Nat.le_refl _) _).alloc (by rw [World.size_alloc]; omega) _).alloc (by rw [World.size_alloc, World.size_alloc]; omega) _

set_option maxRecDepth 100000 in
theorem eqPlace_yes (r c : Int) (w : World) : Calls Try.prog 112 #[.agg #[.int .i64 r, .int .i64 c], .agg #[.int .i64 r, .int .i64 c]] w fun e w' => e = .returned (.bool true) ∧ Below w.heap.size w w' := by
  have h1 : (r != r) = false := by simp
  have h2 : (c != c) = false := by simp
  go_enter Try.func112, Try.ntmps112
  go_wp2
  go_ret
  exact ⟨rfl, ((Below.refl _ _).alloc (Nat.le_refl _) _).alloc (by rw [World.size_alloc]; omega) _⟩

set_option maxRecDepth 100000 in
set_option maxHeartbeats 800000 in
theorem toP_any (ad : Option Addr) (n cap : Nat) (F : List Int) (w : World) (h : CameP ad n F w) (hn : n ≤ 1048576) :
    Calls Try.prog 46 #[.slice ad n cap] w fun e w' => ∃ v, e = .returned v ∧ OwnP w.heap.size v n F w' ∧ Below w.heap.size w w' := by
  obtain ⟨i0, hi, hz0, hz1, hz2⟩ := info_parts infoP
  have HL := Lib.hid h.1
  have HC := Lib.hid (fun i hi => CameP.at h i hi)
  clear h
  have a := Try.isAgg109
  have z := Try.sizeOf109
  have a2 := Try.isAgg111
  have z2 := Try.sizeOf111
  go_enter Try.func46, Try.ntmps46
  go_wp2_with (refine wpList_make_full _ rfl _ _ 59 rfl w.heap.size 109 i0 (.agg #[.int .i64 0, .int .i64 0]) 2 Try.underlying59 hi hz0 hz1 .i64 .i64 n n n rfl rfl rfl rfl ?b2 ?b3 (Nat.le_refl _) ?_)
  case b2 => rw [hz2]; omega
  case b3 => unfold maxLen; omega
  intro w1 hown hgrow
  have O1 : Hid (OwnP w.heap.size (.slice (some ⟨w.heap.size, 0, none⟩) n n) n (pre F (n * 2) (0 * 2)) w1) := by
    refine Lib.hid ?_
    have e : (madeCells #[Value.int .i64 0, Value.int .i64 0] (n * 2)).toList = (pre F (n * 2) (0 * 2)).map (Value.int .i64) := by
      simp only [pre, Nat.zero_mul, List.take_zero, List.nil_append, Nat.sub_zero, List.map_replicate]
      apply List.ext_getElem
      · simp [madeCells]
      · intro i h1 h2
        simp [madeCells]
        have : i % 2 = 0 ∨ i % 2 = 1 := by omega
        rcases this with e | e <;> simp [e]
    unfold OwnP
    rw [← e]
    exact hown
  have B1 : Hid (Below w.heap.size w w1) := Lib.hid ((Below.refl _ _).grown hgrow (Nat.le_refl _) (fun k hk => by cases hk))
  clear hown hgrow hi hz0 hz1 hz2
  go_wp2
  go_loopw [4] (fun i wr => ∃ k : Nat, k ≤ n ∧ i = .int .i64 k ∧ Hid (OwnP w.heap.size (.slice (some ⟨w.heap.size, 0, none⟩) n n) n (pre F (n * 2) (k * 2)) wr) ∧ Hid (Below w.heap.size w wr)) (fun i _ => n - (intOf i).toNat)
  case atStart => exact ⟨0, by omega, rfl, O1, B1⟩
  case round =>
    obtain ⟨k, hk, rfl, O2, B2⟩ := hrel
    by_cases hlt : k < n
    · have hdk : decide ((k : Int) < (n : Int)) = true := by simp; omega
      obtain ⟨b, off, rfl, hb, hc0, hc1⟩ := HC.out k hlt
      have c0 := (B2.out.cell (p := ⟨b, off + k * 2, none⟩) hb).trans hc0
      have c1 := (B2.out.cell (p := ⟨b, off + k * 2 + 1, none⟩) hb).trans hc1
      clear hb hc0 hc1
      have hl : (pre F (n * 2) (k * 2)).length = n * 2 := pre_len F (n * 2) (k * 2) HL.out (by omega)
      have HP : Hid (((pre F (n * 2) (k * 2)).set (k * 2) (F.getD (k * 2) 0)).set (k * 2 + 1) (F.getD (k * 2 + 1) 0) = pre F (n * 2) ((k + 1) * 2)) := Lib.hid (by
        rw [pre_set F (n * 2) (k * 2) HL.out (by omega), pre_set F (n * 2) (k * 2 + 1) HL.out (by omega)]
        rw [show (k + 1) * 2 = k * 2 + 1 + 1 by omega])
      clear HC hl
      generalize F.getD (k * 2) 0 = x at *
      generalize F.getD (k * 2 + 1) 0 = y at *
      go_wp2_with fail
      refine (toPlace_any x y _).mono ?_
      rintro e w3 ⟨rfl, k3⟩
      have O3 : Hid (OwnP w.heap.size (.slice (some ⟨w.heap.size, 0, none⟩) n n) n (pre F (n * 2) (k * 2)) w3) := Lib.hid (O2.out.below k3 (Nat.le_refl _))
      have B3 : Hid (Below w.heap.size w w3) := Lib.hid (B2.out.trans (k3.mono B2.out.size))
      have f0 := O3.out.free (k * 2)
      have f1 := O3.out.free (k * 2 + 1)
      have d0 := O3.out.cell (k * 2) (by omega)
      have d1 := O3.out.cell (k * 2 + 1) (by omega)
      have O4 : Hid (OwnP w.heap.size (.slice (some ⟨w.heap.size, 0, none⟩) n n) n (pre F (n * 2) ((k + 1) * 2)) ((w3.setCell ⟨w.heap.size, k * 2, none⟩ (.int .i64 x)).setCell ⟨w.heap.size, k * 2 + 1, none⟩ (.int .i64 y))) := Lib.hid (by
        have h1 := (O3.out.stored (k * 2) x).stored (k * 2 + 1) y
        rw [HP.out] at h1
        exact h1)
      have B4 : Hid (Below w.heap.size w ((w3.setCell ⟨w.heap.size, k * 2, none⟩ (.int .i64 x)).setCell ⟨w.heap.size, k * 2 + 1, none⟩ (.int .i64 y))) := Lib.hid ((B3.out.setCell (p := ⟨w.heap.size, k * 2, none⟩) (Nat.le_refl _) _).setCell (p := ⟨w.heap.size, k * 2 + 1, none⟩) (Nat.le_refl _) _)
      clear k3 c0 c1
      generalize (pre F (n * 2) (k * 2)).getD (k * 2) 0 = x1 at *
      generalize (pre F (n * 2) (k * 2)).getD (k * 2 + 1) 0 = y1 at *
      go_wp2
      exact ⟨⟨k + 1, by omega, by go_num, O4, B4⟩, by simp [intOf]; omega⟩
    · obtain rfl : k = n := by omega
      have O3 := O2.out
      rw [pre_all F (k * 2) HL.out] at O3
      go_wp2
      go_ret
      exact ⟨_, rfl, O3, B2.out⟩

set_option maxRecDepth 100000 in
set_option maxHeartbeats 800000 in
theorem eqP_yes (a1 a2 : Option Addr) (n c1 c2 : Nat) (F : List Int) (w : World) (h1 : CameP a1 n F w) (h2 : CameP a2 n F w) (hn : n ≤ 1048576) :
    Calls Try.prog 48 #[.slice a1 n c1, .slice a2 n c2] w fun e w' => e = .returned (.bool true) ∧ Below w.heap.size w w' := by
  have H1 := Lib.hid (fun i hi => CameP.at h1 i hi)
  have H2 := Lib.hid (fun i hi => CameP.at h2 i hi)
  clear h1 h2
  have a := Try.isAgg109
  have z := Try.sizeOf109
  have hnn : ((n : Int) != n) = false := by simp
  go_enter Try.func48, Try.ntmps48
  go_wp2
  go_loopw [5] (fun i wr => ∃ k : Nat, k ≤ n ∧ i = .int .i64 k ∧ Hid (Below w.heap.size w wr)) (fun i _ => n - (intOf i).toNat)
  case atStart => exact ⟨0, by omega, rfl, Lib.hid (Below.refl _ _)⟩
  case round =>
    obtain ⟨k, hk, rfl, HW⟩ := hrel
    by_cases hlt : k < n
    · have hdk : decide ((k : Int) < (n : Int)) = true := by simp; omega
      obtain ⟨b1, o1, rfl, hb1, p1, q1⟩ := H1.out k hlt
      obtain ⟨b2, o2, rfl, hb2, p2, q2⟩ := H2.out k hlt
      have r1 := (HW.out.cell (p := ⟨b1, o1 + k * 2, none⟩) hb1).trans p1
      have r2 := (HW.out.cell (p := ⟨b2, o2 + k * 2, none⟩) hb2).trans p2
      have s1 := (HW.out.cell (p := ⟨b1, o1 + k * 2 + 1, none⟩) hb1).trans q1
      have s2 := (HW.out.cell (p := ⟨b2, o2 + k * 2 + 1, none⟩) hb2).trans q2
      have L1 : b1 < wr.heap.size := by have := HW.out.size; omega
      have L2 : b2 < wr.heap.size := by have := HW.out.size; omega
      clear hb1 hb2 p1 p2 q1 q2 H1 H2
      generalize F.getD (k * 2) 0 = x at *
      generalize F.getD (k * 2 + 1) 0 = y at *
      have CC : Hid (∀ w', Below wr.heap.size wr w' → w'.cell? ⟨b1, o1 + k * 2, none⟩ = some (.int .i64 x) ∧ w'.cell? ⟨b1, o1 + k * 2 + 1, none⟩ = some (.int .i64 y) ∧ w'.cell? ⟨b2, o2 + k * 2, none⟩ = some (.int .i64 x) ∧ w'.cell? ⟨b2, o2 + k * 2 + 1, none⟩ = some (.int .i64 y)) :=
        Lib.hid (fun w' h => ⟨(h.cell (p := ⟨b1, o1 + k * 2, none⟩) L1).trans r1, (h.cell (p := ⟨b1, o1 + k * 2 + 1, none⟩) L1).trans s1, (h.cell (p := ⟨b2, o2 + k * 2, none⟩) L2).trans r2, (h.cell (p := ⟨b2, o2 + k * 2 + 1, none⟩) L2).trans s2⟩)
      clear r1 s1 r2 s2 L1 L2
      go_wp2
      refine wp_region_noPanic ?_
      refine wp_region_held_drew (S := Below wr.heap.size wr) (by kernel_rfl) (below_drewN (Below.refl _ _) 1) (fun hHeld => ?_)
      refine wpAnyH_take (i := 0) (v := .slice (some ⟨b1, o1, none⟩) n c1) rfl (by kernel_rfl) (by kernel_rfl) (by kernel_rfl) (fun _ _ _ h => h) (Or.inl ⟨by rfl, fun w' hSw => by obtain ⟨g1, g2, g3, g4⟩ := CC.out w' hSw; go_simp⟩) hHeld ?_
      simp only [Act.put]
      refine wpAnyH_take (i := 1) (v := .int .i64 k) rfl (by kernel_rfl) (by kernel_rfl) (by kernel_rfl) (fun _ _ _ h => h) (Or.inl ⟨by rfl, fun w' hSw => by obtain ⟨g1, g2, g3, g4⟩ := CC.out w' hSw; go_simp⟩) hHeld ?_
      simp only [Act.put]
      refine wpAnyH_take (i := 2) (v := .pointer (some ⟨b1, o1 + k * 2, none⟩)) rfl (by kernel_rfl) (by kernel_rfl) (by kernel_rfl) (fun _ _ _ h => h) (Or.inl ⟨by rfl, fun w' hSw => by obtain ⟨g1, g2, g3, g4⟩ := CC.out w' hSw; go_simp⟩) hHeld ?_
      simp only [Act.put]
      refine wpAnyH_take (i := 3) (v := .agg #[.int .i64 x, .int .i64 y]) rfl (by kernel_rfl) (by kernel_rfl) (by kernel_rfl) (fun _ _ _ h => h) (Or.inl ⟨by rfl, fun w' hSw => by obtain ⟨g1, g2, g3, g4⟩ := CC.out w' hSw; go_simp⟩) hHeld ?_
      simp only [Act.put]
      refine wpAnyH_take (i := 4) (v := .slice (some ⟨b2, o2, none⟩) n c2) rfl (by kernel_rfl) (by kernel_rfl) (by kernel_rfl) (fun _ _ _ h => h) (Or.inl ⟨by rfl, fun w' hSw => by obtain ⟨g1, g2, g3, g4⟩ := CC.out w' hSw; go_simp⟩) hHeld ?_
      simp only [Act.put]
      refine wpAnyH_take (i := 5) (v := .int .i64 k) rfl (by kernel_rfl) (by kernel_rfl) (by kernel_rfl) (fun _ _ _ h => h) (Or.inl ⟨by rfl, fun w' hSw => by obtain ⟨g1, g2, g3, g4⟩ := CC.out w' hSw; go_simp⟩) hHeld ?_
      simp only [Act.put]
      refine wpAnyH_take (i := 6) (v := .pointer (some ⟨b2, o2 + k * 2, none⟩)) rfl (by kernel_rfl) (by kernel_rfl) (by kernel_rfl) (fun _ _ _ h => h) (Or.inl ⟨by rfl, fun w' hSw => by obtain ⟨g1, g2, g3, g4⟩ := CC.out w' hSw; go_simp⟩) hHeld ?_
      simp only [Act.put]
      refine wpAnyH_take (i := 7) (v := .agg #[.int .i64 x, .int .i64 y]) rfl (by kernel_rfl) (by kernel_rfl) (by kernel_rfl) (fun _ _ _ h => h) (Or.inl ⟨by rfl, fun w' hSw => by obtain ⟨g1, g2, g3, g4⟩ := CC.out w' hSw; go_simp⟩) hHeld ?_
      simp only [Act.put]
      refine wpAnyH_ready (rs := [8]) (by kernel_rfl) (by simp) ?_
      refine AllReadyH.cons (o := _) rfl (fun K hK => ?_) AllReadyH.nil
      rw [if_pos (by rfl)]
      go_simp
      refine (eqPlace_yes x y _).mono ?_
      rintro e w3 ⟨rfl, k3⟩
      have hHeld3 := hHeld.trans (k3.mono hHeld.size)
      refine hK.out _ _ hHeld3 (fun _ => ?_)
      clear hK K
      refine wpAnyH_take (i := 9) (v := .bool false) rfl (by kernel_rfl) (by kernel_rfl) (by kernel_rfl) (fun _ _ _ h => h) (Or.inl ⟨by rfl, fun w' hSw => by go_simp⟩) hHeld3 ?_
      simp only [Act.put]
      refine wpAnyH_done (by kernel_rfl) ?_ _
      refine NoPanic.normal ?_
      have HW3 : Hid (Below w.heap.size w w3) := Lib.hid (HW.out.trans (hHeld3.mono HW.out.size))
      clear k3 hHeld hHeld3 CC
      go_wp2
      exact ⟨⟨k + 1, by omega, by go_num, HW3⟩, by simp [intOf]; omega⟩
    · obtain rfl : k = n := by omega
      go_wp2
      go_ret
      exact ⟨rfl, HW.out⟩

set_option maxRecDepth 100000 in
set_option maxHeartbeats 800000 in
theorem heldP_any (a : Option Addr) (n c : Nat) (w : World) (h : CameP a n (marks (n * 2) 1) w) (hn : n ≤ 1048576) :
    Calls Try.prog 52 #[.slice a n c, .int .i64 1] w fun e w' => e = .returned (.int .i64 (1 + ((n * 2 : Nat) : Int))) ∧ w = w' := by
  have H1 := Lib.hid (fun i hi => CameP.at h i hi)
  clear h
  go_enter Try.func52, Try.ntmps52
  go_wp2
  go_loopw [1, 5] (fun q i wr => ∃ k : Nat, k ≤ n ∧ i = .int .i64 k ∧ q = .int .i64 (1 + ((k * 2 : Nat) : Int)) ∧ wr = w) (fun _ i _ => n - (intOf i).toNat)
  case atStart => exact ⟨0, by omega, rfl, rfl, rfl⟩
  case round =>
    obtain ⟨k, hk, rfl, rfl, rfl⟩ := hrel
    by_cases hlt : k < n
    · have hdk : decide ((k : Int) < (n : Int)) = true := by simp; omega
      obtain ⟨b1, o1, rfl, hb1, p1, q1⟩ := H1.out k hlt
      rw [marks_get (n * 2) 1 (k * 2) (by omega)] at p1
      rw [marks_get (n * 2) 1 (k * 2 + 1) (by omega)] at q1
      have q2 : wr.cell? ⟨b1, o1 + k * 2 + 1, none⟩ = some (.int .i64 (1 + ((k * 2 : Nat) : Int) + 1)) := by rw [q1]; simp only [Option.some.injEq, Value.int.injEq, true_and]; omega
      clear hb1 q1 H1
      generalize hm : ((k * 2 : Nat) : Int) = m at *
      have hxx : ((1 + m) != 1 + m) = false := by simp
      have hyy : ((1 + m + 1) != 1 + m + 1) = false := by simp
      have hw1 : IntKind.i64.wrap (1 + m + 1) = 1 + m + 1 := IntWalk.i64_in _ (by omega)
      have hw2 : IntKind.i64.wrap (1 + m + 1 + 1) = 1 + m + 1 + 1 := IntWalk.i64_in _ (by omega)
      go_wp2
      exact ⟨⟨k + 1, by omega, by go_num, by simp only [Value.int.injEq, true_and]; omega, by trivial⟩, by simp [intOf]; omega⟩
    · obtain rfl : k = n := by omega
      go_wp2
      go_ret
      exact ⟨rfl, by trivial⟩

set_option maxRecDepth 100000 in
set_option maxHeartbeats 800000 in
theorem markP_any (B : Nat) (v : Value) (n : Nat) (F : List Int) (w : World) (h : OwnP B v n F w) (hn : n ≤ 1048576) :
    Calls Try.prog 49 #[v, .int .i64 1] w fun e w' => e = .returned (.int .i64 (1 + ((n * 2 : Nat) : Int))) ∧ OwnP B v n (marks (n * 2) 1) w' ∧ w.grownBy w' v.ownBlock := by
  have hlen := h.len
  rcases h.kind with ⟨rfl, rfl, rfl⟩ | ⟨g, cap, rfl, hb, hg, _⟩
  · go_enter Try.func49, Try.ntmps49
    go_wp2
    refine wp_loop_rounds 1 ?_
    rw [rounds_succ]
    go_wp2
    go_ret
    exact ⟨rfl, h, ⟨rfl, rfl, rfl, Nat.le_refl _, fun _ _ _ => rfl⟩⟩
  · have H1 := Lib.hid h
    clear h
    have HL := Lib.hid hlen
    clear hlen
    have G1 : Hid (w.grownBy w (some g)) := Lib.hid ⟨rfl, rfl, rfl, Nat.le_refl _, fun _ _ _ => rfl⟩
    have O1 : Hid (OwnP B (.slice (some ⟨g, 0, none⟩) n cap) n (mpre F (0 * 2)) w) := Lib.hid (by simpa [mpre, marks] using H1.out)
    go_enter Try.func49, Try.ntmps49
    go_wp2
    go_loopw [1, 5] (fun q i wr => ∃ k : Nat, k ≤ n ∧ i = .int .i64 k ∧ q = .int .i64 (1 + ((k * 2 : Nat) : Int)) ∧ Hid (OwnP B (.slice (some ⟨g, 0, none⟩) n cap) n (mpre F (k * 2)) wr) ∧ Hid (w.grownBy wr (some g))) (fun _ i _ => n - (intOf i).toNat)
    case atStart => exact ⟨0, by omega, rfl, rfl, O1, G1⟩
    case round =>
      obtain ⟨k, hk, rfl, rfl, O2, G2⟩ := hrel
      by_cases hlt : k < n
      · have hdk : decide ((k : Int) < (n : Int)) = true := by simp; omega
        have f0 := O2.out.free (k * 2)
        have d0 := O2.out.cell (k * 2) (by omega)
        have d1 := O2.out.cell (k * 2 + 1) (by omega)
        have f1 := (O2.out.stored (k * 2) (1 + ((k * 2 : Nat) : Int))).free (k * 2 + 1)
        have d2 := (World.cell?_setCell_other wr ⟨g, k * 2, none⟩ ⟨g, k * 2 + 1, none⟩ (.int .i64 (1 + ((k * 2 : Nat) : Int))) (by intro h; injection h; omega)).trans d1
        have O3 : Hid (OwnP B (.slice (some ⟨g, 0, none⟩) n cap) n (mpre F ((k + 1) * 2)) ((wr.setCell ⟨g, k * 2, none⟩ (.int .i64 (1 + ((k * 2 : Nat) : Int)))).setCell ⟨g, k * 2 + 1, none⟩ (.int .i64 (1 + ((k * 2 : Nat) : Int) + 1)))) := by
          refine Lib.hid ?_
          have h1 := (O2.out.stored (k * 2) (1 + ((k * 2 : Nat) : Int))).stored (k * 2 + 1) (1 + ((k * 2 + 1 : Nat) : Int))
          rw [mpre_set F (k * 2) (by rw [HL.out]; omega), mpre_set F (k * 2 + 1) (by rw [HL.out]; omega), show k * 2 + 1 + 1 = (k + 1) * 2 by omega, show (1 + ((k * 2 + 1 : Nat) : Int)) = 1 + ((k * 2 : Nat) : Int) + 1 by omega] at h1
          exact h1
        have G3 : Hid (w.grownBy ((wr.setCell ⟨g, k * 2, none⟩ (.int .i64 (1 + ((k * 2 : Nat) : Int)))).setCell ⟨g, k * 2 + 1, none⟩ (.int .i64 (1 + ((k * 2 : Nat) : Int) + 1))) (some g)) := by
          refine Lib.hid ?_
          have g1 := G2.out
          refine ⟨g1.os, g1.tape, g1.output, by simpa [World.setCell] using g1.size, fun j hj hne => ?_⟩
          rw [Below.heap_setCell _ _ _ _ (fun e => hne (by rw [e])), Below.heap_setCell _ _ _ _ (fun e => hne (by rw [e]))]
          exact g1.block j hj hne
        clear H1 HL d1
        generalize (mpre F (k * 2)).getD (k * 2) 0 = y at *
        generalize (mpre F (k * 2)).getD (k * 2 + 1) 0 = y1 at *
        generalize hm : ((k * 2 : Nat) : Int) = m at *
        have hw1 : IntKind.i64.wrap (1 + m + 1) = 1 + m + 1 := IntWalk.i64_in _ (by omega)
        have hw2 : IntKind.i64.wrap (1 + m + 1 + 1) = 1 + m + 1 + 1 := IntWalk.i64_in _ (by omega)
        go_wp2
        exact ⟨⟨k + 1, by omega, by go_num, by simp only [Value.int.injEq, true_and]; omega, O3, G3⟩, by simp [intOf]; omega⟩
      · obtain rfl : k = n := by omega
        have O3 := O2.out
        rw [← HL.out, mpre_all, HL.out] at O3
        go_wp2
        go_ret
        exact ⟨rfl, O3, G2.out⟩

end Go.Proofs.Ytjmfffgddmnkmab
