/- The program's DecodeShadow: the list and the code, whatever the list is. Condition: as many numbers as a law lets in. -/
import Derived.Test.YtclflnpbiiimiaaM29
import Derived.Test.YtclflnpbiiimiaaRv
import Derived.Test.YtclflnpbiiimiaaM35
import Derived.Test.YtclflnpbiiimiaaRq
import Derived.Deep.CutBlock
import Derived.Deep.DeepCutAuto
namespace Go.Proofs.Ytclflnpbiiimiaa
open Go Go.RowKit Go.Shelf Ieee

theorem dcD_enters : ∀ (args : Array Value) w, (callFunc 39 args).run Try.prog w = .ok (.enter 39 args) w := enters_of Try.func39 (by kernel_rfl) rfl
/-- the decoded number at k -/
def dcO (A : List Nat) (n k : Nat) : Option Nat := (accTo (dcF A k) n).map (fun s => divS s (half n))
theorem dcD_same (A : List Nat) (n k : Nat) (hn : 0 < n) (hk : k < n) (hA : A.length = n) : (atD A (legs n) n k).map (fun s => divS s (half n)) = dcO A n k := by
  unfold atD dcO
  congr 1
  refine acc_congr n (fun j _ => ?_)
  unfold dcF
  have h1 : (j + n - k) % n < n := Nat.mod_lt _ hn
  rw [sub_mod j k n (by omega), legs_get n _ h1, hA]

set_option maxRecDepth 100000 in
set_option maxHeartbeats 1600000 in
theorem implDc (A : List Nat) : ListsF 13 A (dcList A) (dcCode A) := by
  intro lA u w hU
  obtain ⟨aA, cA, rfl, hA⟩ := hU.came
  have HLA := Lib.hid lA
  have HPR := Lib.hid (prime_any (A.length : Int))
  obtain ⟨t, ht⟩ : ∃ t, t = prI (A.length : Int) := ⟨_, rfl⟩
  rw [← ht] at HPR
  obtain ⟨C, hC⟩ : ∃ C, C = scC A := ⟨_, rfl⟩
  have HC0 : Hid (chk t [A] = C) := Lib.hid (by rw [hC, ← sc_chk, ht])
  have HCC := Lib.hid hC
  have HA := Lib.hid hA
  clear hU hC ht hA lA
  have hmf : ∀ (fn : Fn) (first cap : Array Value) (w : World), (Instr.makeFunc fn first cap).run Try.prog w = .ok (.func fn first cap) w := fun _ _ _ _ => rfl
  go_enter Try.func13, Try.ntmps13
  go_wp2_with fail
  have x1 := Boxed.new w 25 (.slice aA A.length cA)
  have B2 := Lib.hid ((Below.refl w.heap.size w).alloc (Nat.le_refl _) (.cells #[.slice aA A.length cA] 25))
  generalize w.alloc (.cells #[.slice aA A.length cA] 25) = w2 at *
  have HA2 := Lib.hid (HA.out.below B2.out (Nat.le_refl _))
  have X1 := Lib.hid x1
  clear x1
  go_cut [5] (fun c wx => c = .int .i64 C ∧ Hid (Below w2.heap.size w2 wx))
  case first =>
    have k1 := X1.out.cell
    have HU : Hid (∀ u, u = w2.drew.alloc (.cells #[.slice aA A.length cA] 25) → Below w2.heap.size w2 u ∧ Calls Try.prog 31 #[.bool t, .slice (some ⟨w2.heap.size, 0, none⟩) 1 1] u fun e w' => e = .returned (.int .i64 C) ∧ ∃ d, w' = u.drewN d) := Lib.hid (fun u hu => by
      have b1 : Below w2.heap.size w2 u := by rw [hu]; exact (Below.refl w2.heap.size w2).drew.alloc (Nat.le_refl _) _
      have h := check_any t w2.heap.size 1 1 [A] u (rows_one (T := 25) (by rw [hu]; exact heap_alloc_new w2.drew _) (HA2.out.below b1 (Nat.le_refl _)) HLA.out) (by omega)
      rw [HC0.out] at h
      exact ⟨b1, h⟩)
    obtain ⟨hb, hc⟩ := HU.out _ rfl
    have k3 := (hb.cell (p := ⟨w.heap.size, 0, none⟩) X1.out.lt).trans k1
    have k5 : ∀ d, ((w2.drew.alloc (.cells #[.slice aA A.length cA] 25)).drewN d).cell? ⟨w.heap.size, 0, none⟩ = some (.slice aA A.length cA) := fun d => by rw [World.cell?_drewN]; exact k3
    have HCH2 := Lib.hid hc
    clear hb hc HU
    go_region_held3 (fun u => u.cell? ⟨w.heap.size, 0, none⟩ = some (.slice aA A.length cA)) (go_keep)
      (first
        | (go_at_call 25; refine (HPR.out _).mono ?_; rintro e w' ⟨rfl, rfl⟩)
        | (go_at_call 31; refine HCH2.out.mono ?_; rintro e w' ⟨rfl, d, rfl⟩))
    all_goals
      go_wp2_with fail
      go_meet
      exact ⟨rfl, Lib.hid (below_drewN ((Below.refl w2.heap.size w2).alloc (Nat.le_refl _) _) (1 + d))⟩
  case rest =>
    obtain ⟨rfl, B3⟩ := hcut
    by_cases hc0 : C = 0
    · have hz := sc_zero (HCC.out.symm.trans hc0)
      have hpl := pr_len hz.2
      have hd : (C != 0) = false := by rw [hc0]; rfl
      have HE1 : Hid (dcCode A = ansC (dec A)) := Lib.hid (by unfold dcCode; rw [← HCC.out, if_pos hc0])
      have HE2 : Hid (dcList A = ansL (dec A)) := Lib.hid (by unfold dcList; rw [← HCC.out, if_pos hc0])
      have HZ := Lib.hid hz
      have HPL := Lib.hid hpl
      have HW := Lib.hid (legendre_any A.length (by omega) (by omega))
      have HN := Lib.hid (numbersOf_any A.length (by omega) (fun j v => v = leg A.length j))
      have HEQ : Hid (∀ L : List Nat, L.length = A.length → (∀ j, j < A.length → L.getD j 0 = leg A.length j) → L = legs A.length) := Lib.hid (fun L h1 h2 => list_of h1 h2)
      have hsz3 := B3.out.size
      clear hz
      generalize hnA : A.length = n at *
      have HNA := Lib.hid hnA
      clear hnA
      go_wp2_with fail
      refine (HW.out _).mono ?_
      rintro e w3 ⟨⟨lb, rfl, hS⟩, hb1⟩
      have HS := Lib.hid hS
      have B4 := Lib.hid (B3.out.trans (hb1.mono hsz3))
      clear hS hb1 hsz3
      go_wp2_with fail
      refine (HN.out _ _ HS.out).mono ?_
      rintro e w4 ⟨v, L, rfl, hO, hlen, hR, hb2⟩
      obtain rfl := HEQ.out L hlen hR
      have B5 := Lib.hid (B4.out.trans (hb2.mono B4.out.size))
      have hO2 := hO.mono B4.out.size
      obtain ⟨g, cp, rfl, hg, _⟩ := hO2.form (by rw [legs_len]; omega)
      rw [legs_len] at hO2 ⊢
      have O1 := Lib.hid hO2
      clear hO hlen hR hb2 hO2
      have hsz5 := B5.out.size
      go_wp2_with fail
      have x2 := Boxed.new w4 25 (.slice (some ⟨g, 0, none⟩) n cp)
      have B6 := Lib.hid (B5.out.alloc hsz5 (.cells #[.slice (some ⟨g, 0, none⟩) n cp] 25))
      have O2 : Hid (OwnF w2.heap.size (.slice (some ⟨g, 0, none⟩) n cp) (legs n) (w4.alloc (.cells #[.slice (some ⟨g, 0, none⟩) n cp] 25))) := Lib.hid (O1.out.alloc _)
      have X2 := Lib.hid x2
      have HBX : Hid ((w4.alloc (.cells #[.slice (some ⟨g, 0, none⟩) n cp] 25)).heap.size = w4.heap.size + 1) := Lib.hid (by simp)
      generalize w4.alloc (.cells #[.slice (some ⟨g, 0, none⟩) n cp] 25) = w5 at *
      generalize w4.heap.size = bx at *
      clear O1 x2 hsz5
      have hsz6 := B6.out.size
      have HH : Hid (half n = floatOfInt .f32 (((n : Int) + 1) / 2)) := Lib.hid rfl
      go_wp2_with fail
      have x3 := Boxed.new w5 40 (.float .f32 (half n))
      have X4 := Lib.hid (X2.out.alloc (.cells #[.float .f32 (half n)] 40))
      have B7 := Lib.hid (B6.out.alloc hsz6 (.cells #[.float .f32 (half n)] 40))
      have O3 : Hid (OwnF w2.heap.size (.slice (some ⟨g, 0, none⟩) n cp) (legs n) (w5.alloc (.cells #[.float .f32 (half n)] 40))) := Lib.hid (O2.out.alloc _)
      rw [HH.out] at x3 X4 B7 O3
      have X3 := Lib.hid x3
      rw [HBX.out] at X3
      generalize w5.alloc (.cells #[.float .f32 (floatOfInt .f32 (((n : Int) + 1) / 2))] 40) = w6 at *
      clear x3 hsz6
      have HGL2 : Hid (g < w6.heap.size) := Lib.hid (World.ownsRow.lt O3.out g rfl).2
      have hlenA := HNA.out
      have HBLD := Lib.hid (build_any n (by omega) (fun k v => SR (dcO A n k) v) 39 #[.pointer (some ⟨w.heap.size, 0, none⟩), .pointer (some ⟨bx, 0, none⟩), .pointer (some ⟨bx + 1, 0, none⟩)] (fun j v => dcD_enters _ v) _ (fun k hk W hW => by
        have hBW : Below w2.heap.size w2 W := B7.out.trans (hW.mono B7.out.size)
        have hA5 : CameF aA n A w2 := HA2.out
        have hM : CameF (some ⟨g, 0, none⟩) n (legs n) W := ⟨legs_len n, fun _ => ⟨g, 0, rfl, by have := hW.size; have := HGL2.out; omega, fun i hi => by
          rw [Nat.zero_add, hW.cell (p := ⟨g, i, none⟩) HGL2.out]
          exact (by rw [legs_len n]; exact O3.out : OwnF w2.heap.size (.slice (some ⟨g, 0, none⟩) (legs n).length cp) (legs n) _).cell i (by rw [legs_len n]; exact hi)⟩⟩
        have h := telD_any n k (by omega) (by omega) hk A (legs n) aA (some ⟨g, 0, none⟩) cA cp w.heap.size bx W (hA5.below hBW (Nat.le_refl _)) hM HZ.out.1 (legs_all n) (bx + 1) HZ.out.2 (by rw [HH.out]; exact (hW.cell (p := ⟨bx + 1, 0, none⟩) X3.out.lt).trans X3.out.cell)
          ((hBW.cell (p := ⟨w.heap.size, 0, none⟩) X1.out.lt).trans X1.out.cell) ((hW.cell (p := ⟨bx, 0, none⟩) X4.out.lt).trans X4.out.cell)
        rw [dcD_same A n k (by omega) hk HNA.out] at h
        exact h))
      have B9 := Lib.hid (B2.out.trans (B7.out.mono B2.out.size))
      go_wp2_with fail
      refine HBLD.out.mono ?_
      rintro e w9 ⟨L, hl, hR, he, hb⟩
      obtain ⟨v, rfl, hO⟩ := told_ans (F := dcO A n) hl hR he
      have HCR : Hid (rowsTo (fun k => dcO A n k) n = dec A) := Lib.hid (by unfold dec dcO; rw [HNA.out])
      rw [HCR.out] at hO ⊢
      have HO := Lib.hid hO
      have BX := Lib.hid (B9.out.trans (hb.mono B9.out.size))
      generalize ansC (dec A) = c at *
      clear hl hR he hO hb
      go_wp2_with fail
      go_ret2
      exact ⟨_, by rw [HE1.out]; rfl, by rw [HE2.out]; exact HO.out.mono B9.out.size, BX.out⟩
    · have HE1 : Hid (dcCode A = C) := Lib.hid (by unfold dcCode; rw [← HCC.out, if_neg hc0])
      have HE2 : Hid (dcList A = []) := Lib.hid (by unfold dcList; rw [← HCC.out, if_neg hc0])
      have hd : (C != 0) = true := by simpa using hc0
      have B4 := Lib.hid (B2.out.trans (B3.out.mono B2.out.size))
      go_wp2_with fail
      go_ret2
      exact ⟨_, by rw [HE1.out]; rfl, by rw [HE2.out]; exact OwnF.zero _ _, B4.out⟩

end Go.Proofs.Ytclflnpbiiimiaa
