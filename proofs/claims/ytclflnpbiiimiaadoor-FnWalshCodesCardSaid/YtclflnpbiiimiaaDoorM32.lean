/- The program's WalshCode: the list and the code, whatever the numbers are. Condition: none. The program's SumsByCodes: the list and the code, whatever the list is. Condition: as many numbers as a law lets in. -/
import Derived.Test.YtclflnpbiiimiaaDoorRx
import Derived.Test.YtclflnpbiiimiaaDoorM20
import Derived.Test.YtclflnpbiiimiaaDoorM21
import Derived.Test.YtclflnpbiiimiaaDoorRy
namespace Go.Proofs.YtclflnpbiiimiaaDoor
open Go Go.RowKit Go.Shelf Ieee

set_option maxRecDepth 100000 in
set_option maxHeartbeats 800000 in
theorem implWc_no (n k : Int) (h : wcOk n k = false) : List2F 7 n k [] 2 := by
  intro w
  have HL := Lib.hid (codeLen_any n)
  cases hl : lenI n
  · rw [hl] at HL
    go_enter Tryd.func7, Tryd.ntmps7
    go_wp2_with fail
    refine (HL.out _).mono ?_
    rintro e w1 ⟨rfl, rfl⟩
    go_wp2_with fail
    go_ret2
    exact ⟨_, rfl, OwnF.zero _ _, Below.refl _ _⟩
  · rw [hl] at HL
    have hb : 1 ≤ n ∧ n ≤ 64 := by rcases lenI_yes hl with e | e | e | e | e | e | e <;> omega
    have hw : IntKind.i64.wrap (n - 1) = n - 1 := IntWalk.i64_in _ (by omega)
    have hk : (decide (0 ≤ k) && decide (k ≤ n - 1)) = false := by
      unfold wcOk at h
      rw [hl, Bool.true_and] at h
      exact h
    have HB := Lib.hid (fun w => between_b 0 k (n - 1) w)
    rw [hk] at HB
    clear h hk
    go_enter Tryd.func7, Tryd.ntmps7
    go_wp2_with fail
    refine (HL.out _).mono ?_
    rintro e w1 ⟨rfl, rfl⟩
    go_wp2_with fail
    refine (HB.out _).mono ?_
    rintro e w1 ⟨rfl, rfl⟩
    go_wp2_with fail
    go_ret2
    exact ⟨_, rfl, OwnF.zero _ _, Below.refl _ _⟩

set_option maxRecDepth 100000 in
set_option maxHeartbeats 800000 in
theorem implWc_yes (n k : Nat) (hl : lenI n = true) (hk : k < n) : List2F 7 n k (walsh n k) 0 := by
  intro w
  have hb : 1 ≤ n ∧ n ≤ 64 := by rcases lenI_yes hl with e | e | e | e | e | e | e <;> omega
  have HL := Lib.hid (codeLen_any n)
  rw [hl] at HL
  have hw : IntKind.i64.wrap ((n : Int) - 1) = (n : Int) - 1 := IntWalk.i64_in _ (by omega)
  have HB := Lib.hid (fun w => between_b 0 k (n - 1) w)
  rw [show (decide ((0 : Int) ≤ k) && decide ((k : Int) ≤ n - 1)) = true by simp; omega] at HB
  have HW := Lib.hid (walsh_any n k hb.2 (by omega))
  have HN := Lib.hid (numbersOf_any n hb.2 (fun j v => v = wal k j))
  have HE : Hid (∀ L : List Nat, L.length = n → (∀ j, j < n → L.getD j 0 = wal k j) → L = walsh n k) := Lib.hid (fun L h1 h2 => list_of h1 h2)
  generalize walsh n k = R at *
  clear hl
  go_enter Tryd.func7, Tryd.ntmps7
  go_wp2_with fail
  refine (HL.out _).mono ?_
  rintro e w1 ⟨rfl, rfl⟩
  go_wp2_with fail
  refine (HB.out _).mono ?_
  rintro e w1 ⟨rfl, rfl⟩
  go_wp2_with fail
  refine (HW.out _).mono ?_
  rintro e w1 ⟨⟨lb, rfl, hS⟩, hb1⟩
  have HS := Lib.hid hS
  have B1 := Lib.hid hb1
  clear hS hb1
  go_wp2_with fail
  refine (HN.out _ _ HS.out).mono ?_
  rintro e w2 ⟨v, L, rfl, hO, hlen, hR, hb2⟩
  obtain rfl := HE.out L hlen hR
  have HO := Lib.hid hO
  have B2 := Lib.hid hb2
  clear hO hlen hR hb2
  go_wp2_with fail
  go_ret2
  exact ⟨_, rfl, HO.out.mono B1.out.size, B1.out.trans (B2.out.mono B1.out.size)⟩

theorem implWc (n k : Int) : List2F 7 n k (wcList n k) (wcCode n k) := by
  unfold wcList wcCode
  cases h : wcOk n k
  · exact implWc_no n k h
  · have h' := h
    unfold wcOk at h'
    simp only [Bool.and_eq_true, decide_eq_true_eq] at h'
    obtain ⟨⟨h1, h2⟩, h3⟩ := h'
    have hb : 1 ≤ n ∧ n ≤ 64 := by rcases lenI_yes h1 with e | e | e | e | e | e | e <;> omega
    obtain ⟨N, rfl⟩ : ∃ N : Nat, n = N := ⟨n.toNat, by omega⟩
    obtain ⟨K, rfl⟩ : ∃ N : Nat, k = N := ⟨k.toNat, by omega⟩
    exact implWc_yes N K h1 (by omega)

end Go.Proofs.YtclflnpbiiimiaaDoor

namespace Go.Proofs.YtclflnpbiiimiaaDoor
open Go Go.RowKit Ieee

set_option maxRecDepth 100000 in
set_option maxHeartbeats 1600000 in
theorem clone_any (ad : Option Addr) (n cap : Nat) (L : List Nat) (w : World) (h : CameF ad n L w) (hn : 1 ≤ n ∧ n ≤ 64) :
    Calls Tryd.prog 72 #[.slice ad n cap] w fun e w' => ∃ g cp, e = .returned (.slice (some ⟨g, 0, none⟩) n cp) ∧ w.heap.size ≤ g ∧ OwnF w.heap.size (.slice (some ⟨g, 0, none⟩) n cp) L w' ∧ Below w.heap.size w w' := by
  obtain ⟨i0, hi, hz0, hz1, hz2⟩ := info_parts infoF
  have hLn := h.1
  obtain ⟨b, off, rfl, hb, hc⟩ := h.2 (by omega)
  have heq : ∀ w, (binOp .eql 26 (.slice (some ⟨b, off, none⟩) n cap) (.slice none 0 0)).run Tryd.prog w = .ok (.bool false) w := fun _ => rfl
  have HNEW : Hid (∀ j u, (L.map (Value.float .f32))[j]? = some u → (w.alloc (.cells #[] 38)).cell? ((⟨b, off, none⟩ : Addr).add j) = some u) := Lib.hid (fun j u hj => by
    have hjl : j < L.length := by have := (List.getElem?_eq_some_iff.1 hj).1; rwa [List.length_map] at this
    rw [Addr.add_mid, World.cell?_alloc_lt _ _ _ hb, hc j (by omega), ← hj, map_getDF L j hjl])
  have HONE : Hid (∀ u ∈ L.map (Value.float .f32), u.oneCell' = true) := Lib.hid (fun u hu => by obtain ⟨x, _, rfl⟩ := List.mem_map.1 hu; rfl)
  have HLN := Lib.hid hLn
  clear h hb hc
  go_enter Tryd.func72, Tryd.ntmps72
  go_wp2_with (at_builtin; refine wpList_append_own _ rfl (.tmp 5) (.tmp 6) 26 rfl w.heap.size 38 i0 (.float .f32 0) 1 4 Tryd.underlying26 hi hz0 hz1 hz2 rfl (by decide) (.slice (some ⟨w.heap.size, 0, none⟩) 0 0) 0 [] rfl (OwnF.empty _ _ (Nat.le_refl _)) ⟨b, off, none⟩ n cap (L.map (Value.float .f32)) rfl ?a1 HNEW.out HONE.out ?a2 ?a3 ?a4 ?_)
  case a1 => rw [List.length_map, HLN.out, Nat.mul_one]
  case a2 => unfold maxLen; omega
  case a3 => omega
  case a4 => rw [World.size_alloc]; omega
  intro v0 w1 hown hgrow _
  have hO : OwnF w.heap.size v0 L w1 := by
    unfold OwnF
    rw [HLN.out]
    exact hown
  have B1 : Hid (Below w.heap.size w w1) := Lib.hid (((Below.refl w.heap.size w).alloc (Nat.le_refl _) _).grown hgrow (by rw [World.size_alloc]; omega) (fun k hk => by injection hk with hk; have : w.heap.size = k := hk; omega))
  obtain ⟨g, cp, rfl, hg, _⟩ := hO.form (by rw [HLN.out]; omega)
  have O1 : Hid (OwnF w.heap.size (.slice (some ⟨g, 0, none⟩) n cp) L w1) := Lib.hid (by rw [HLN.out] at hO; exact hO)
  rw [HLN.out]
  have HGE := Lib.hid hg
  clear hown hgrow hO hi hz0 hz1 hz2 HNEW HONE hg
  go_wp2_with fail
  go_ret
  exact ⟨g, cp, rfl, HGE.out, O1.out, B1.out⟩

set_option maxRecDepth 100000 in
set_option maxHeartbeats 1600000 in
theorem sums_any (ad : Option Addr) (n cap : Nat) (L : List Nat) (w : World) (h : CameF ad n L w) (hn : lenI (n : Int) = true) (hf : L.all fin = true) :
    Calls Tryd.prog 45 #[.slice ad n cap] w fun e w' => ∃ v M, e = .returned v ∧ OwnF w.heap.size v M w' ∧ M.length = n ∧ ((okRnd L (lg n) = true ∧ M = rnds L (lg n)) ∨ (okRnd L (lg n) = false ∧ M.all fin = false)) ∧ Below w.heap.size w w' := by
  have hn64 : 1 ≤ n ∧ n ≤ 64 := by rcases lenI_yes hn with e | e | e | e | e | e | e <;> omega
  have HC := Lib.hid (clone_any ad n cap L w h hn64)
  have HR := Lib.hid (fun g cp w1 hO hB => rounds_any w.heap.size g cp n L w1 hn h.1 hO hf hB)
  clear h hn hf
  go_enter Tryd.func45, Tryd.ntmps45
  go_wp2_with fail
  refine HC.out.mono ?_
  rintro e w1 ⟨g, cp, rfl, hg, hO, hb⟩
  have HR2 := Lib.hid (HR.out g cp w1 hO hg)
  have B1 := Lib.hid hb
  clear hg hO hb
  go_wp2_with fail
  refine HR2.out.mono ?_
  rintro e w2 ⟨⟨v, rfl⟩, M, hO, hl, hor, hb⟩
  have HO := Lib.hid hO
  have HL := Lib.hid hl
  have HOR := Lib.hid hor
  have B2 := Lib.hid (B1.out.trans hb)
  clear hO hl hor hb
  go_wp2_with fail
  go_ret
  exact ⟨_, M, rfl, HO.out, HL.out, HOR.out, B2.out⟩

theorem sb_chk (A : List Nat) : chk (lenI (A.length : Int)) [A] = (if A.all fin = false then 1 else if lenI (A.length : Int) = false then 2 else 0) := by
  unfold chk
  simp only [List.all_cons, List.all_nil, Bool.and_true]
  cases A.all fin <;> cases lenI (A.length : Int) <;> rfl

set_option maxRecDepth 100000 in
set_option maxHeartbeats 1600000 in
theorem implSb (A : List Nat) : ListsF 11 A (sbList A) (sbCode A) := by
  intro lA u w hU
  obtain ⟨aA, cA, rfl, hA⟩ := hU.came
  have HLA := Lib.hid lA
  have HPR := Lib.hid (codeLen_any (A.length : Int))
  obtain ⟨t, ht⟩ : ∃ t, t = lenI (A.length : Int) := ⟨_, rfl⟩
  rw [← ht] at HPR
  obtain ⟨C, hC⟩ : ∃ C, C = chk t [A] := ⟨_, rfl⟩
  have hcode : C = (if A.all fin = false then 1 else if lenI (A.length : Int) = false then 2 else 0) := by rw [hC, ht]; exact sb_chk A
  have HCO := Lib.hid hcode
  have HT := Lib.hid ht
  have HCC := Lib.hid hC
  have HA := Lib.hid hA
  clear hU hC ht hA lA hcode
  go_enter Tryd.func11, Tryd.ntmps11
  go_wp2_with fail
  refine (HPR.out _).mono ?_
  rintro e w1 ⟨rfl, rfl⟩
  go_wp2_with fail
  have B2 := Lib.hid ((Below.refl w.heap.size w).alloc (Nat.le_refl _) (.cells #[.slice aA A.length cA] 26))
  have HCH : Hid (Calls Tryd.prog 43 #[.bool t, .slice (some ⟨w.heap.size, 0, none⟩) 1 1] (w.alloc (.cells #[.slice aA A.length cA] 26)) fun e w' => e = .returned (.int .i64 C) ∧ ∃ d, w' = (w.alloc (.cells #[.slice aA A.length cA] 26)).drewN d) := Lib.hid (by
    have h := check_any t w.heap.size 1 1 [A] _ (rows_one (T := 26) (heap_alloc_new w _) (HA.out.below B2.out (Nat.le_refl _)) HLA.out) (by omega)
    rw [← HCC.out] at h
    exact h)
  generalize w.alloc (.cells #[.slice aA A.length cA] 26) = w2 at *
  refine HCH.out.mono ?_
  rintro e w3 ⟨rfl, d, rfl⟩
  have B3 := Lib.hid (below_drewN B2.out d)
  generalize w2.drewN d = w3 at *
  clear B2 HCH
  by_cases hc0 : C = 0
  · have hcode := HCO.out
    have hfA : A.all fin = true := by
      cases h : A.all fin
      · rw [h, if_pos rfl] at hcode; omega
      · rfl
    have hle : lenI (A.length : Int) = true := by
      cases h : lenI (A.length : Int)
      · rw [hfA, h, if_neg (by decide), if_pos rfl] at hcode; omega
      · rfl
    have hd : (C != 0) = false := by rw [hc0]; rfl
    have HSM := Lib.hid (sums_any aA A.length cA A w3 (HA.out.below B3.out (Nat.le_refl _)) hle hfA)
    have HSC : Hid (sbCode A = if okRnd A (lg A.length) = true then 0 else 3) := Lib.hid (by unfold sbCode; rw [hfA, hle]; rfl)
    have HN64 : Hid (A.length ≤ 64) := Lib.hid (by rcases lenI_yes hle with e | e | e | e | e | e | e <;> omega)
    clear hcode hfA hle
    go_wp2_with fail
    refine HSM.out.mono ?_
    rintro e w4 ⟨v, M, rfl, hO, hl, hor, hb⟩
    have B4 := Lib.hid (B3.out.trans (hb.mono B3.out.size))
    have HO := Lib.hid (hO.mono B3.out.size)
    have HFN := Lib.hid (finNums_any _ v M w4 hO (by have := HN64.out; omega))
    have HOR := Lib.hid hor
    clear hO hl hor hb
    go_wp2_with fail
    refine HFN.out.mono ?_
    rintro e w5 ⟨⟨d, rfl⟩, h⟩
    have B5 := Lib.hid (below_drewN B4.out d)
    have HO5 : Hid (OwnF w.heap.size v M (w4.drewN d)) := Lib.hid HO.out
    generalize w4.drewN d = w5 at *
    clear HO B4 HFN
    rcases h with ⟨h1, rfl⟩ | ⟨h1, rfl⟩
    · have hok : okRnd A (lg A.length) = true ∧ M = rnds A (lg A.length) := by
        rcases HOR.out with h | ⟨_, h⟩
        · exact h
        · rw [h1] at h; cases h
      have HE1 : Hid (sbCode A = 0) := Lib.hid (by rw [HSC.out, if_pos hok.1])
      have HE2 : Hid (sbList A = M) := Lib.hid (by unfold sbList; rw [HE1.out, if_pos rfl]; exact hok.2.symm)
      clear h1 hok
      go_wp2_with fail
      go_ret2
      exact ⟨_, by rw [HE1.out]; rfl, by rw [HE2.out]; exact HO5.out, B5.out⟩
    · have hok : okRnd A (lg A.length) = false := by
        rcases HOR.out with ⟨h, h2⟩ | ⟨h, _⟩
        · have := okRnd_last h
          rw [← h2, h1] at this; cases this
        · exact h
      have HE1 : Hid (sbCode A = 3) := Lib.hid (by rw [HSC.out, if_neg (by rw [hok]; decide)])
      have HE2 : Hid (sbList A = []) := Lib.hid (by unfold sbList; rw [HE1.out, if_neg (by decide)])
      clear h1 hok
      go_wp2_with fail
      go_ret2
      exact ⟨_, by rw [HE1.out]; rfl, by rw [HE2.out]; exact OwnF.zero _ _, B5.out⟩
  · have HE1 : Hid (sbCode A = C) := Lib.hid (by
      have hcode := HCO.out
      unfold sbCode
      rw [hcode] at hc0 ⊢
      cases h1 : A.all fin
      · rfl
      · cases h2 : lenI (A.length : Int)
        · rfl
        · rw [h1, h2] at hc0; exact absurd rfl hc0)
    have HE2 : Hid (sbList A = []) := Lib.hid (by unfold sbList; rw [HE1.out, if_neg hc0])
    have hd : (C != 0) = true := by simpa using hc0
    go_wp2_with fail
    go_ret2
    exact ⟨_, by rw [HE1.out]; rfl, by rw [HE2.out]; exact OwnF.zero _ _, B3.out⟩

end Go.Proofs.YtclflnpbiiimiaaDoor
