/- The program's WalshCode: the list and the code, whatever the numbers are. Condition: none. -/
import Derived.Test.YtajbnoofchcaoaaRx
import Derived.Test.YtajbnoofchcaoaaRg
namespace Go.Proofs.Ytajbnoofchcaoaa
open Go Go.RowKit Go.Shelf Ieee

set_option maxRecDepth 100000 in
set_option maxHeartbeats 800000 in
theorem implWc_no (n k : Int) (h : wcOk n k = false) : List2F 15 n k [] 2 := by
  intro w
  have HL := Lib.hid (codeLen_any n)
  cases hl : lenI n
  · rw [hl] at HL
    go_enter Try.func15, Try.ntmps15
    go_wp2_with fail
    refine (HL.out _).mono ?_
    rintro e w1 ⟨rfl, rfl⟩
    go_wp2_with fail
    go_ret2
    exact ⟨_, rfl, OwnF.zero _ _, Below.refl _ _⟩
  · rw [hl] at HL
    have hb : 1 ≤ n ∧ n ≤ 64 := by rcases lenI_yes hl with e | e | e | e | e | e | e <;> omega
    have hw : IntKind.i64.wrap (n - 1) = n - 1 := IntWalk.i64_in _ (by omega)
    have hk : (decide (0 ≤ k) && decide (k ≤ n - 1)) = false := by
      unfold wcOk at h
      rw [hl, Bool.true_and] at h
      exact h
    have HB := Lib.hid (fun w => between_b 0 k (n - 1) w)
    rw [hk] at HB
    clear h hk
    go_enter Try.func15, Try.ntmps15
    go_wp2_with fail
    refine (HL.out _).mono ?_
    rintro e w1 ⟨rfl, rfl⟩
    go_wp2_with fail
    refine (HB.out _).mono ?_
    rintro e w1 ⟨rfl, rfl⟩
    go_wp2_with fail
    go_ret2
    exact ⟨_, rfl, OwnF.zero _ _, Below.refl _ _⟩

set_option maxRecDepth 100000 in
set_option maxHeartbeats 800000 in
theorem implWc_yes (n k : Nat) (hl : lenI n = true) (hk : k < n) : List2F 15 n k (walsh n k) 0 := by
  intro w
  have hb : 1 ≤ n ∧ n ≤ 64 := by rcases lenI_yes hl with e | e | e | e | e | e | e <;> omega
  have HL := Lib.hid (codeLen_any n)
  rw [hl] at HL
  have hw : IntKind.i64.wrap ((n : Int) - 1) = (n : Int) - 1 := IntWalk.i64_in _ (by omega)
  have HB := Lib.hid (fun w => between_b 0 k (n - 1) w)
  rw [show (decide ((0 : Int) ≤ k) && decide ((k : Int) ≤ n - 1)) = true by simp; omega] at HB
  have HW := Lib.hid (walsh_any n k hb.2 (by omega))
  have HN := Lib.hid (numbersOf_any n hb.2 (fun j v => v = wal k j))
  have HE : Hid (∀ L : List Nat, L.length = n → (∀ j, j < n → L.getD j 0 = wal k j) → L = walsh n k) := Lib.hid (fun L h1 h2 => list_of h1 h2)
  generalize walsh n k = R at *
  clear hl
  go_enter Try.func15, Try.ntmps15
  go_wp2_with fail
  refine (HL.out _).mono ?_
  rintro e w1 ⟨rfl, rfl⟩
  go_wp2_with fail
  refine (HB.out _).mono ?_
  rintro e w1 ⟨rfl, rfl⟩
  go_wp2_with fail
  refine (HW.out _).mono ?_
  rintro e w1 ⟨⟨lb, rfl, hS⟩, hb1⟩
  have HS := Lib.hid hS
  have B1 := Lib.hid hb1
  clear hS hb1
  go_wp2_with fail
  refine (HN.out _ _ HS.out).mono ?_
  rintro e w2 ⟨v, L, rfl, hO, hlen, hR, hb2⟩
  obtain rfl := HE.out L hlen hR
  have HO := Lib.hid hO
  have B2 := Lib.hid hb2
  clear hO hlen hR hb2
  go_wp2_with fail
  go_ret2
  exact ⟨_, rfl, HO.out.mono B1.out.size, B1.out.trans (B2.out.mono B1.out.size)⟩

theorem implWc (n k : Int) : List2F 15 n k (wcList n k) (wcCode n k) := by
  unfold wcList wcCode
  cases h : wcOk n k
  · exact implWc_no n k h
  · have h' := h
    unfold wcOk at h'
    simp only [Bool.and_eq_true, decide_eq_true_eq] at h'
    obtain ⟨⟨h1, h2⟩, h3⟩ := h'
    have hb : 1 ≤ n ∧ n ≤ 64 := by rcases lenI_yes h1 with e | e | e | e | e | e | e <;> omega
    obtain ⟨N, rfl⟩ : ∃ N : Nat, n = N := ⟨n.toNat, by omega⟩
    obtain ⟨K, rfl⟩ : ∃ N : Nat, k = N := ⟨k.toNat, by omega⟩
    exact implWc_yes N K h1 (by omega)

end Go.Proofs.Ytajbnoofchcaoaa
