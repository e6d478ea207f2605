/- Whether patches are in an object, and the model's coverage. Condition: a list that a law lets in. -/
import Derived.Test.YtjmfffgddmnkmabCp
import Derived.Test.YtjmfffgddmnkmabHs
namespace Go.Proofs.Ytjmfffgddmnkmab
open Go Go.RowKit

set_option maxRecDepth 100000 in
set_option maxHeartbeats 1600000 in
theorem arePat_any (n m : Int) (a : Option Addr) (k cap : Nat) (F : List Int) (w : World) (h : CameP a k F w) (hk : k ≤ 1048576) :
    Calls Try.prog 110 #[.int .i64 n, .int .i64 m, .slice a k cap] w fun e w' => e = .returned (.bool (arePat n m k F)) ∧ Below w.heap.size w w' := by
  have B1 : Hid (Below w.heap.size w (w.alloc (.cells #[.int .i64 n] 2))) := Lib.hid ((Below.refl _ _).alloc (Nat.le_refl _) _)
  have c0 : (w.alloc (.cells #[.int .i64 n] 2)).cell? ⟨w.heap.size, 0, none⟩ = some (.int .i64 n) := World.cell?_alloc_at _ _ _ _ rfl
  have HC : Hid (IntKind.i64.wrap (n - 1) = n - 1 → Calls Try.prog 133 #[.slice a k cap, .func (.func 132) #[] #[.pointer (some ⟨w.heap.size, 0, none⟩)]] (w.alloc (.cells #[.int .i64 n] 2)) fun e w' => e = .returned (.bool (!areAt n F k)) ∧ Below (w.alloc (.cells #[.int .i64 n] 2)).heap.size (w.alloc (.cells #[.int .i64 n] 2)) w') :=
    Lib.hid (fun e => containsP_any n w.heap.size a k cap F _ e (h.below B1.out (Nat.le_refl _)) hk c0 (by rw [World.size_alloc]; omega))
  clear h c0
  unfold arePat
  cases hs : side n
  · have HS := Lib.hid hs
    clear hs HC
    go_enter Try.func110, Try.ntmps110
    go_wp2_with fail
    refine (isSide_any n _).mono ?_
    rw [HS.out]
    rintro e w1 ⟨rfl, rfl⟩
    go_wp2_with fail
    go_ret
    exact ⟨rfl, B1.out⟩
  · have HS := Lib.hid hs
    have hw1 : IntKind.i64.wrap (n - 1) = n - 1 := by rcases side_yes n hs with rfl | rfl | rfl | rfl <;> rfl
    have HC := Lib.hid (HC.out hw1)
    clear hs hw1
    cases hs2 : side m
    · have HS2 := Lib.hid hs2
      clear hs2 HC
      go_enter Try.func110, Try.ntmps110
      go_wp2_with fail
      refine (isSide_any n _).mono ?_
      rw [HS.out]
      rintro e w1 ⟨rfl, rfl⟩
      go_wp2_with fail
      refine (isSide_any m _).mono ?_
      rw [HS2.out]
      rintro e w1 ⟨rfl, rfl⟩
      go_wp2_with fail
      go_ret
      exact ⟨rfl, B1.out⟩
    · have HS2 := Lib.hid hs2
      clear hs2
      cases hl : decide (m ≤ n)
      · clear HC
        go_enter Try.func110, Try.ntmps110
        go_wp2_with fail
        refine (isSide_any n _).mono ?_
        rw [HS.out]
        rintro e w1 ⟨rfl, rfl⟩
        go_wp2_with fail
        refine (isSide_any m _).mono ?_
        rw [HS2.out]
        rintro e w1 ⟨rfl, rfl⟩
        go_wp2_with fail
        go_ret
        exact ⟨rfl, B1.out⟩
      · cases hk2 : decide (k ≤ 20)
        · have hk3 : decide ((k : Int) ≤ 20) = false := by simp at hk2 ⊢; omega
          clear HC
          go_enter Try.func110, Try.ntmps110
          go_wp2_with fail
          refine (isSide_any n _).mono ?_
          rw [HS.out]
          rintro e w1 ⟨rfl, rfl⟩
          go_wp2_with fail
          refine (isSide_any m _).mono ?_
          rw [HS2.out]
          rintro e w1 ⟨rfl, rfl⟩
          go_wp2_with fail
          go_ret
          exact ⟨rfl, B1.out⟩
        · have hk3 : decide ((k : Int) ≤ 20) = true := by simp at hk2 ⊢; omega
          go_enter Try.func110, Try.ntmps110
          go_wp2_with fail
          refine (isSide_any n _).mono ?_
          rw [HS.out]
          rintro e w1 ⟨rfl, rfl⟩
          go_wp2_with fail
          refine (isSide_any m _).mono ?_
          rw [HS2.out]
          rintro e w1 ⟨rfl, rfl⟩
          go_wp2_with fail
          refine HC.out.mono ?_
          rintro e w2 ⟨rfl, k2⟩
          have HK := Lib.hid (B1.out.trans (k2.mono B1.out.size))
          clear k2
          go_wp2_with fail
          go_ret
          exact ⟨by rw [Bool.true_and, Bool.true_and, Bool.true_and, Bool.true_and]; simp, HK.out⟩

/-- what is asked of program and model: counts and a code, in memory of their own -/
def Covs (f : FuncId) (n m : Int) (k : Nat) (F R : List Int) (c : Int) : Prop :=
  k ≤ 1048576 → ∀ v w, OwnP 0 v k F w → Calls Try.prog f #[.int .i64 n, .int .i64 m, v] w fun e w' => ∃ r, e = .returned (.tuple #[r, .int .i64 c]) ∧ Own w.heap.size r R w' ∧ Below w.heap.size w w'

def covR (n m : Int) (k : Nat) (F : List Int) : List Int := if arePat n m k F then covAll n.toNat m.toNat F k else []
def covC (n m : Int) (k : Nat) (F : List Int) : Int := if arePat n m k F then 0 else 2

theorem arePat_yes {n m : Int} {k : Nat} {F : List Int} (h : arePat n m k F = true) : side n = true ∧ side m = true ∧ m ≤ n ∧ k ≤ 20 ∧ areAt n F k = true := by
  unfold arePat at h
  simp only [Bool.and_eq_true, decide_eq_true_eq] at h
  exact h

end Go.Proofs.Ytjmfffgddmnkmab
