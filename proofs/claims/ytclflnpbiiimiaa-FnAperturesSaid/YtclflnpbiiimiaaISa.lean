/- The program's ShadowOf: the list and the code, whatever the list is. Condition: as many numbers as a law lets in. -/
import Derived.Test.YtclflnpbiiimiaaM29
import Derived.Test.YtclflnpbiiimiaaM35
import Derived.Test.YtclflnpbiiimiaaRq
import Derived.Deep.CutBlock
import Derived.Deep.DeepCutAuto
namespace Go.Proofs.Ytclflnpbiiimiaa
open Go Go.RowKit Go.Shelf Ieee

theorem shS_enters : ∀ (args : Array Value) w, (callFunc 33 args).run Try.prog w = .ok (.enter 33 args) w := enters_of Try.func33 (by kernel_rfl) rfl
/-- the mask up to q, the code from there on -/
def mkTo (n q : Nat) : List Nat := (List.range n).map (fun j => if j < q then mk (leg n j) else leg n j)
theorem mkTo_len (n q : Nat) : (mkTo n q).length = n := by simp [mkTo]
theorem mkTo_zero (n : Nat) : mkTo n 0 = legs n := by unfold mkTo legs; congr 1
theorem mkTo_get (n q j : Nat) (hj : j < n) : (mkTo n q).getD j 0 = if j < q then mk (leg n j) else leg n j := by simp [mkTo, List.getD_eq_getElem?_getD, hj]
theorem mkTo_succ (n q : Nat) (hq : q < n) : (mkTo n q).set q (mk (leg n q)) = mkTo n (q + 1) := by
  apply List.ext_getElem?
  intro j
  rw [List.getElem?_set, mkTo_len]
  by_cases hj : j < n
  · unfold mkTo
    rw [List.getElem?_map, List.getElem?_map, List.getElem?_range hj]
    by_cases e : q = j
    · rw [if_pos e, if_pos (by omega)]; simp [← e]
    · rw [if_neg e]
      have : (j < q) = (j < q + 1) := by apply propext; omega
      simp [this]
  · rw [if_neg (by omega), List.getElem?_eq_none (by rw [mkTo_len]; omega), List.getElem?_eq_none (by rw [mkTo_len]; omega)]
theorem mkTo_all (n : Nat) : (mkTo n n).all fin = true := by
  rw [List.all_eq_true]
  intro x hx
  unfold mkTo at hx
  obtain ⟨j, hj, rfl⟩ := List.mem_map.1 hx
  rw [if_pos (by simpa using hj)]
  exact mk_fin _
theorem shS_same (A : List Nat) (n k : Nat) (hn : 0 < n) (hA : A.length = n) : atS A (mkTo n n) n k = accTo (shF A k) n := by
  unfold atS
  refine acc_congr n (fun j hj => ?_)
  unfold shF
  have h1 : (k + n - j) % n < n := Nat.mod_lt _ hn
  rw [sub_mod k j n (by omega), mkTo_get n n _ h1, if_pos h1, hA]

set_option maxRecDepth 100000 in
set_option maxHeartbeats 1600000 in
theorem implSh (A : List Nat) : ListsF 10 A (shList A) (shCode A) := by
  intro lA u w hU
  obtain ⟨aA, cA, rfl, hA⟩ := hU.came
  have HLA := Lib.hid lA
  have HPR := Lib.hid (prime_any (A.length : Int))
  obtain ⟨t, ht⟩ : ∃ t, t = prI (A.length : Int) := ⟨_, rfl⟩
  rw [← ht] at HPR
  obtain ⟨C, hC⟩ : ∃ C, C = scC A := ⟨_, rfl⟩
  have HC0 : Hid (chk t [A] = C) := Lib.hid (by rw [hC, ← sc_chk, ht])
  have HCC := Lib.hid hC
  have HA := Lib.hid hA
  clear hU hC ht hA lA
  have hmf : ∀ (fn : Fn) (first cap : Array Value) (w : World), (Instr.makeFunc fn first cap).run Try.prog w = .ok (.func fn first cap) w := fun _ _ _ _ => rfl
  go_enter Try.func10, Try.ntmps10
  go_wp2_with fail
  have x1 := Boxed.new w 25 (.slice aA A.length cA)
  have B2 := Lib.hid ((Below.refl w.heap.size w).alloc (Nat.le_refl _) (.cells #[.slice aA A.length cA] 25))
  generalize w.alloc (.cells #[.slice aA A.length cA] 25) = w2 at *
  have HA2 := Lib.hid (HA.out.below B2.out (Nat.le_refl _))
  have X1 := Lib.hid x1
  clear x1
  go_cut [5] (fun c wx => c = .int .i64 C ∧ Hid (Below w2.heap.size w2 wx))
  case first =>
    have k1 := X1.out.cell
    have HU : Hid (∀ u, u = w2.drew.alloc (.cells #[.slice aA A.length cA] 25) → Below w2.heap.size w2 u ∧ Calls Try.prog 31 #[.bool t, .slice (some ⟨w2.heap.size, 0, none⟩) 1 1] u fun e w' => e = .returned (.int .i64 C) ∧ ∃ d, w' = u.drewN d) := Lib.hid (fun u hu => by
      have b1 : Below w2.heap.size w2 u := by rw [hu]; exact (Below.refl w2.heap.size w2).drew.alloc (Nat.le_refl _) _
      have h := check_any t w2.heap.size 1 1 [A] u (rows_one (T := 25) (by rw [hu]; exact heap_alloc_new w2.drew _) (HA2.out.below b1 (Nat.le_refl _)) HLA.out) (by omega)
      rw [HC0.out] at h
      exact ⟨b1, h⟩)
    obtain ⟨hb, hc⟩ := HU.out _ rfl
    have k3 := (hb.cell (p := ⟨w.heap.size, 0, none⟩) X1.out.lt).trans k1
    have k5 : ∀ d, ((w2.drew.alloc (.cells #[.slice aA A.length cA] 25)).drewN d).cell? ⟨w.heap.size, 0, none⟩ = some (.slice aA A.length cA) := fun d => by rw [World.cell?_drewN]; exact k3
    have HCH2 := Lib.hid hc
    clear hb hc HU
    go_region_held3 (fun u => u.cell? ⟨w.heap.size, 0, none⟩ = some (.slice aA A.length cA)) (go_keep)
      (first
        | (go_at_call 25; refine (HPR.out _).mono ?_; rintro e w' ⟨rfl, rfl⟩)
        | (go_at_call 31; refine HCH2.out.mono ?_; rintro e w' ⟨rfl, d, rfl⟩))
    all_goals
      go_wp2_with fail
      go_meet
      exact ⟨rfl, Lib.hid (below_drewN ((Below.refl w2.heap.size w2).alloc (Nat.le_refl _) _) (1 + d))⟩
  case rest =>
    obtain ⟨rfl, B3⟩ := hcut
    by_cases hc0 : C = 0
    · have hz := sc_zero (HCC.out.symm.trans hc0)
      have hpl := pr_len hz.2
      have hd : (C != 0) = false := by rw [hc0]; rfl
      have HE1 : Hid (shCode A = ansC (sha A)) := Lib.hid (by unfold shCode; rw [← HCC.out, if_pos hc0])
      have HE2 : Hid (shList A = ansL (sha A)) := Lib.hid (by unfold shList; rw [← HCC.out, if_pos hc0])
      have HZ := Lib.hid hz
      have HPL := Lib.hid hpl
      have HW := Lib.hid (legendre_any A.length (by omega) (by omega))
      have HN := Lib.hid (numbersOf_any A.length (by omega) (fun j v => v = leg A.length j))
      have HEQ : Hid (∀ L : List Nat, L.length = A.length → (∀ j, j < A.length → L.getD j 0 = leg A.length j) → L = legs A.length) := Lib.hid (fun L h1 h2 => list_of h1 h2)
      have hsz3 := B3.out.size
      clear hz
      generalize hnA : A.length = n at *
      have HNA := Lib.hid hnA
      clear hnA
      go_wp2_with fail
      refine (HW.out _).mono ?_
      rintro e w3 ⟨⟨lb, rfl, hS⟩, hb1⟩
      have HS := Lib.hid hS
      have B4 := Lib.hid (B3.out.trans (hb1.mono hsz3))
      clear hS hb1 hsz3
      go_wp2_with fail
      refine (HN.out _ _ HS.out).mono ?_
      rintro e w4 ⟨v, L, rfl, hO, hlen, hR, hb2⟩
      obtain rfl := HEQ.out L hlen hR
      have B5 := Lib.hid (B4.out.trans (hb2.mono B4.out.size))
      have hO2 := hO.mono B4.out.size
      obtain ⟨g, cp, rfl, hg, _⟩ := hO2.form (by rw [legs_len]; omega)
      rw [legs_len] at hO2 ⊢
      have O1 := Lib.hid hO2
      clear hO hlen hR hb2 hO2
      have hsz5 := B5.out.size
      go_wp2_with fail
      have x2 := Boxed.new w4 25 (.slice (some ⟨g, 0, none⟩) n cp)
      have B6 := Lib.hid (B5.out.alloc hsz5 (.cells #[.slice (some ⟨g, 0, none⟩) n cp] 25))
      have O2 : Hid (OwnF w2.heap.size (.slice (some ⟨g, 0, none⟩) n cp) (legs n) (w4.alloc (.cells #[.slice (some ⟨g, 0, none⟩) n cp] 25))) := Lib.hid (O1.out.alloc _)
      have X2 := Lib.hid x2
      have HGL : Hid (g < w4.heap.size) := Lib.hid (World.ownsRow.lt O1.out g rfl).2
      have HGE := Lib.hid hg
      generalize w4.alloc (.cells #[.slice (some ⟨g, 0, none⟩) n cp] 25) = w5 at *
      generalize w4.heap.size = bx at *
      clear O1 x2 hg hsz5
      go_wp2_with fail
      go_loopw [25] (fun i wr => ∃ q : Nat, q ≤ n ∧ i = .int .i64 q ∧ Hid (OwnF w2.heap.size (.slice (some ⟨g, 0, none⟩) n cp) (mkTo n q) wr) ∧ Hid (Boxed wr bx 25 (.slice (some ⟨g, 0, none⟩) n cp)) ∧ Hid (Below w2.heap.size w2 wr)) (fun i _ => n - (intOf i).toNat)
      case atStart => exact ⟨0, by omega, rfl, by rw [mkTo_zero]; exact O2, X2, B6⟩
      case round =>
        clear O2 X2 B6
        obtain ⟨q, hq, rfl, O3, X3, B7⟩ := hrel
        by_cases hlt : q < n
        · have hdk : decide ((q : Int) < (n : Int)) = true := by simp; omega
          have hl := mkTo_len n q
          have o3 : OwnF w2.heap.size (.slice (some ⟨g, 0, none⟩) (mkTo n q).length cp) (mkTo n q) wr := by rw [hl]; exact O3.out
          have c1 := o3.cell q (by omega)
          have f1 := o3.free q
          rw [mkTo_get n q q hlt, if_neg (by omega)] at c1
          have hmax := fun ts t w => run_max_leg n q ts t w
          have O4 := o3.stored q (mk (leg n q))
          rw [hl, mkTo_succ n q hlt] at O4
          have HO4 := Lib.hid O4
          have hne := HGL.out
          have e0 := X3.out.cell
          have X4 : Hid (Boxed (wr.setCell ⟨g, q, none⟩ (.float .f32 (mk (leg n q)))) bx 25 (.slice (some ⟨g, 0, none⟩) n cp)) := Lib.hid (X3.out.kept (grown_set _ _ _ _) (by simp; omega))
          have B8 : Hid (Below w2.heap.size w2 (wr.setCell ⟨g, q, none⟩ (.float .f32 (mk (leg n q))))) := Lib.hid (B7.out.setCell (p := ⟨g, q, none⟩) HGE.out _)
          generalize leg n q = x at *
          generalize mk x = y at *
          clear o3 O4 hl O3 hne
          go_wp2_with fail
          exact ⟨⟨q + 1, by omega, by go_num, HO4, X4, B8⟩, by simp [intOf]; omega⟩
        · obtain rfl : q = n := by omega
          have HGL2 : Hid (g < wr.heap.size) := Lib.hid (World.ownsRow.lt O3.out g rfl).2
          have hlenA := HNA.out
          have HBLD := Lib.hid (build_any q (by omega) (fun k v => SR (accTo (shF A k) q) v) 33 #[.pointer (some ⟨w.heap.size, 0, none⟩), .pointer (some ⟨bx, 0, none⟩)] (fun j v => shS_enters _ v) _ (fun k hk W hW => by
            have hBW : Below w2.heap.size w2 W := B7.out.trans (hW.mono B7.out.size)
            have hA5 : CameF aA q A w2 := HA2.out
            have hM : CameF (some ⟨g, 0, none⟩) q (mkTo q q) W := ⟨mkTo_len q q, fun _ => ⟨g, 0, rfl, by have := hW.size; have := HGL2.out; omega, fun i hi => by
              rw [Nat.zero_add, hW.cell (p := ⟨g, i, none⟩) HGL2.out]
              exact (by rw [mkTo_len q q]; exact O3.out : OwnF w2.heap.size (.slice (some ⟨g, 0, none⟩) (mkTo q q).length cp) (mkTo q q) _).cell i (by rw [mkTo_len q q]; exact hi)⟩⟩
            have h := telS_any q k (by omega) (by omega) hk A (mkTo q q) aA (some ⟨g, 0, none⟩) cA cp w.heap.size bx W (hA5.below hBW (Nat.le_refl _)) hM HZ.out.1 (mkTo_all q)
              ((hBW.cell (p := ⟨w.heap.size, 0, none⟩) X1.out.lt).trans X1.out.cell) ((hW.cell (p := ⟨bx, 0, none⟩) X3.out.lt).trans X3.out.cell)
            rw [shS_same A q k (by omega) HNA.out] at h
            exact h))
          have B9 := Lib.hid (B2.out.trans (B7.out.mono B2.out.size))
          go_wp2_with fail
          refine HBLD.out.mono ?_
          rintro e w9 ⟨L, hl, hR, he, hb⟩
          obtain ⟨v, rfl, hO⟩ := told_ans hl hR he
          have HCR : Hid (rowsTo (fun k => accTo (shF A k) q) q = sha A) := Lib.hid (by unfold sha; rw [HNA.out])
          rw [HCR.out] at hO ⊢
          have HO := Lib.hid hO
          have BX := Lib.hid (B9.out.trans (hb.mono B9.out.size))
          generalize ansC (sha A) = c at *
          clear hl hR he hO hb
          go_wp2_with fail
          go_ret2
          exact ⟨_, by rw [HE1.out]; rfl, by rw [HE2.out]; exact HO.out.mono B9.out.size, BX.out⟩
    · have HE1 : Hid (shCode A = C) := Lib.hid (by unfold shCode; rw [← HCC.out, if_neg hc0])
      have HE2 : Hid (shList A = []) := Lib.hid (by unfold shList; rw [← HCC.out, if_neg hc0])
      have hd : (C != 0) = true := by simpa using hc0
      have B4 := Lib.hid (B2.out.trans (B3.out.mono B2.out.size))
      go_wp2_with fail
      go_ret2
      exact ⟨_, by rw [HE1.out]; rfl, by rw [HE2.out]; exact OwnF.zero _ _, B4.out⟩

end Go.Proofs.Ytclflnpbiiimiaa
