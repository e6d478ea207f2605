/- The program's LegendreCode: the list and the code, whatever the number is. Condition: none. -/
import Derived.Test.YtajbnoofchcaoaaRl
namespace Go.Proofs.Ytajbnoofchcaoaa
open Go Go.RowKit Go.Shelf Ieee

set_option maxRecDepth 100000 in
set_option maxHeartbeats 800000 in
theorem implLc (p : Int) : List1F 25 p (lcList p) (lcCode p) := by
  unfold lcList lcCode
  intro w
  have HL := Lib.hid (prime_any p)
  cases h : prI p
  · rw [h] at HL
    rw [if_neg (by decide), if_neg (by decide)]
    go_enter Try.func25, Try.ntmps25
    go_wp2_with fail
    refine (HL.out _).mono ?_
    rintro e w1 ⟨rfl, rfl⟩
    go_wp2_with fail
    go_ret2
    exact ⟨_, rfl, OwnF.zero _ _, Below.refl _ _⟩
  · rw [if_pos rfl, if_pos rfl]
    have hb : 1 ≤ p ∧ p ≤ 64 := by rcases prI_yes h with e | e | e | e | e | e <;> omega
    obtain ⟨n, rfl⟩ : ∃ N : Nat, p = N := ⟨p.toNat, by omega⟩
    rw [h] at HL
    rw [Int.toNat_natCast]
    have HW := Lib.hid (legendre_any n (by omega) (by omega))
    have HN := Lib.hid (numbersOf_any n (by omega) (fun j v => v = leg n j))
    have HE : Hid (∀ L : List Nat, L.length = n → (∀ j, j < n → L.getD j 0 = leg n j) → L = legs n) := Lib.hid (fun L h1 h2 => list_of h1 h2)
    generalize legs n = R at *
    clear h
    go_enter Try.func25, Try.ntmps25
    go_wp2_with fail
    refine (HL.out _).mono ?_
    rintro e w1 ⟨rfl, rfl⟩
    go_wp2_with fail
    refine (HW.out _).mono ?_
    rintro e w1 ⟨⟨lb, rfl, hS⟩, hb1⟩
    have HS := Lib.hid hS
    have B1 := Lib.hid hb1
    clear hS hb1
    go_wp2_with fail
    refine (HN.out _ _ HS.out).mono ?_
    rintro e w2 ⟨v, L, rfl, hO, hlen, hR, hb2⟩
    obtain rfl := HE.out L hlen hR
    have HO := Lib.hid hO
    have B2 := Lib.hid hb2
    clear hO hlen hR hb2
    go_wp2_with fail
    go_ret2
    exact ⟨_, rfl, HO.out.mono B1.out.size, B1.out.trans (B2.out.mono B1.out.size)⟩

end Go.Proofs.Ytajbnoofchcaoaa
