/- Wrapped heights, wrapped differences, codes of maps that have to be wrapped: what program and model answer. Condition: heights where differences are taken. The places that lists of a call lie in are apart: what is written in one leaves the others. Condition: none. -/
import Derived.Test.YtjmfffgddmnkmacM8
import Derived.Lib.Hide
namespace Go.Proofs.Ytjmfffgddmnkmac
open Go Go.RowKit

theorem remainder_any (k : Int) (w : World) : Calls Try.prog 38 #[.int .i64 k, .int .i64 64] w fun e w' => e = .returned (.int .i64 (wrapH k)) ∧ w = w' := by
  have h1 := tmod_range k
  by_cases h0 : k.tmod 64 < 0
  · have HE := Lib.hid (tmod_neg k h0)
    have hd : decide (k.tmod 64 < 0) = true := decide_eq_true h0
    go_enter Try.func38, Try.ntmps38
    go_wp2
    go_ret
    exact ⟨by unfold wrapH; rw [← HE.out]; rfl, rfl⟩
  · have HE := Lib.hid (tmod_pos k (by omega))
    have hd : decide (k.tmod 64 < 0) = false := decide_eq_false h0
    go_enter Try.func38, Try.ntmps38
    go_wp2
    go_ret
    exact ⟨by unfold wrapH; rw [← HE.out]; rfl, rfl⟩

theorem l07Wrap_any (k : Int) (w : World) : Calls Try.prog 66 #[.int .i64 k] w fun e w' => e = .returned (.int .i64 (wrapH k)) ∧ w = w' := by
  have h1 := tmod_range k
  have HE := Lib.hid (tmod_emod k)
  go_enter Try.func66, Try.ntmps66
  go_wp2
  go_ret
  exact ⟨by unfold wrapH; rw [← HE.out]; rfl, rfl⟩

theorem wrappedDiff_any (h k : Int) (hh : -100000 ≤ h ∧ h ≤ 100000) (hk : -100000 ≤ k ∧ k ≤ 100000) (w : World) :
    Calls Try.prog 59 #[.int .i64 h, .int .i64 k] w fun e w' => e = .returned (.int .i64 (lessH h k)) ∧ w = w' := by
  have h1 := wrapH_range (k - h + 32)
  have HE : Hid (lessH h k = wrapH (k - h + 32) - 32) := Lib.hid rfl
  go_enter Try.func59, Try.ntmps59
  go_wp2_with fail
  refine (remainder_any _ _).mono ?_
  rintro e w1 ⟨rfl, rfl⟩
  go_wp2
  go_ret
  exact ⟨by rw [HE.out]; rfl, rfl⟩

theorem l07Less_any (h k : Int) (hh : -100000 ≤ h ∧ h ≤ 100000) (hk : -100000 ≤ k ∧ k ≤ 100000) (w : World) :
    Calls Try.prog 34 #[.int .i64 h, .int .i64 k] w fun e w' => e = .returned (.int .i64 (lessH h k)) ∧ w = w' := by
  have h1 := wrapH_range (k - h + 32)
  have HE : Hid (lessH h k = wrapH (k - h + 32) - 32) := Lib.hid rfl
  go_enter Try.func34, Try.ntmps34
  go_wp2_with fail
  refine (l07Wrap_any _ _).mono ?_
  rintro e w1 ⟨rfl, rfl⟩
  go_wp2
  go_ret
  exact ⟨by rw [HE.out]; rfl, rfl⟩

theorem isWrapped_any (a : Option Addr) (m cap : Nat) (L : List Int) (w : World) (h : Came a m L w) (hn : m ≤ 1048576) :
    Calls Try.prog 45 #[.slice a m cap] w fun e w' => e = .returned (.bool (L.all isW)) ∧ w = w' := by
  have HC := Lib.hid (contains_any 73 (fun x => !isW x) a m cap L w h hn (fun x v => by simp [go_sem]) (fun x w => notW_any x w))
  have HA := Lib.hid (any_not isW L)
  clear h
  go_enter Try.func45, Try.ntmps45
  go_wp2_with fail
  refine HC.out.mono ?_
  rintro e w1 ⟨rfl, rfl⟩
  go_wp2_with fail
  go_ret
  exact ⟨by rw [← HA.out]; rfl, by trivial⟩

set_option maxRecDepth 100000 in
set_option maxHeartbeats 800000 in
theorem checkW_any (n : Int) (a : Option Addr) (m cap : Nat) (L : List Int) (w : World) (h : Came a m L w) (hn : m ≤ 1048576) :
    Calls Try.prog 30 #[.int .i64 n, .slice a m cap] w fun e w' => e = .returned (.int .i64 (codeW n L)) ∧ w = w' := by
  have HI := Lib.hid (implIs_any n a m cap L w h hn)
  have HW := Lib.hid (isWrapped_any a m cap L w h hn)
  have HR : Hid (codeW n L = if isMap n L then (if L.all isW then 0 else 5) else 1) := Lib.hid rfl
  clear h
  generalize isMap n L = p at *
  generalize L.all isW = q at *
  cases p
  · go_enter Try.func30, Try.ntmps30
    go_wp2_with fail
    refine HI.out.mono ?_
    rintro e w1 ⟨rfl, rfl⟩
    go_wp2_with fail
    go_ret
    exact ⟨by rw [HR.out]; rfl, by trivial⟩
  · cases q
    · go_enter Try.func30, Try.ntmps30
      go_wp2_with fail
      refine HI.out.mono ?_
      rintro e w1 ⟨rfl, rfl⟩
      go_wp2_with fail
      refine HW.out.mono ?_
      rintro e w1 ⟨rfl, rfl⟩
      go_wp2_with fail
      go_ret
      exact ⟨by rw [HR.out]; rfl, by trivial⟩
    · go_enter Try.func30, Try.ntmps30
      go_wp2_with fail
      refine HI.out.mono ?_
      rintro e w1 ⟨rfl, rfl⟩
      go_wp2_with fail
      refine HW.out.mono ?_
      rintro e w1 ⟨rfl, rfl⟩
      go_wp2_with fail
      go_ret
      exact ⟨by rw [HR.out]; rfl, by trivial⟩

set_option maxRecDepth 100000 in
set_option maxHeartbeats 800000 in
theorem l07Code_any (n : Int) (a : Option Addr) (m cap : Nat) (L : List Int) (w : World) (h : Came a m L w) (hn : m ≤ 1048576) :
    Calls Try.prog 33 #[.int .i64 n, .slice a m cap] w fun e w' => e = .returned (.int .i64 (codeW n L)) ∧ w = w' := by
  have HI := Lib.hid (specIs7_any n a m cap L w h hn)
  have HR : Hid (codeW n L = if isMap n L then (if L.all isW then 0 else 5) else 1) := Lib.hid rfl
  have H1 := Lib.hid h
  have HL := Lib.hid h.1
  clear h
  generalize isMap n L = p at *
  cases p
  · go_enter Try.func33, Try.ntmps33
    go_wp2_with fail
    refine HI.out.mono ?_
    rintro e w1 ⟨rfl, rfl⟩
    go_wp2_with fail
    go_ret
    exact ⟨by rw [HR.out]; rfl, by trivial⟩
  · go_enter Try.func33, Try.ntmps33
    go_wp2_with fail
    refine HI.out.mono ?_
    rintro e w1 ⟨rfl, rfl⟩
    go_wp2_with fail
    go_loopw [5] (fun i wr => ∃ k : Nat, k ≤ m ∧ i = .int .i64 k ∧ Hid ((L.take k).all isW = true) ∧ wr = w) (fun i _ => m - (intOf i).toNat)
    case atStart => exact ⟨0, by omega, rfl, Lib.hid (by simp), rfl⟩
    case round =>
      obtain ⟨k, hk, rfl, HP, rfl⟩ := hrel
      by_cases hlt : k < m
      · have hdk : decide ((k : Int) < (m : Int)) = true := by simp; omega
        obtain ⟨b1, o1, rfl, hb1, hc1⟩ := H1.out.2 (by omega)
        have p1 := hc1 k hlt
        clear hb1 hc1
        have HP2 := Lib.hid (all_take_succ isW L k (by rw [HL.out]; exact hlt))
        have HAL := Lib.hid (all_false_of isW L k (by rw [HL.out]; exact hlt))
        generalize L.getD k 0 = x at *
        go_wp2_with fail
        refine (l01In_b x 0 63 _).mono ?_
        rw [show (decide (0 ≤ x) && decide (x ≤ 63)) = isW x from rfl]
        cases hq : isW x
        · have HX := Lib.hid hq
          clear hq
          rintro e w1 ⟨rfl, rfl⟩
          go_wp2
          go_ret
          exact ⟨by rw [HR.out, HAL.out HX.out]; rfl, by trivial⟩
        · have HX := Lib.hid hq
          clear hq
          rintro e w1 ⟨rfl, rfl⟩
          go_wp2
          exact ⟨⟨k + 1, by omega, by go_num, Lib.hid (by rw [HP2.out, HP.out, HX.out]; rfl), by trivial⟩, by simp [intOf]; omega⟩
      · obtain rfl : k = m := by omega
        go_wp2
        go_ret
        refine ⟨?_, by trivial⟩
        have := HP.out
        rw [List.take_of_length_le (by rw [HL.out]; exact Nat.le_refl _)] at this
        rw [HR.out, this]; rfl

/-- the answer that is asked for a wrapped difference -/
def ansWD (h k : Int) : Value := if isH h && isH k then .tuple #[.int .i64 (lessH h k), .int .i64 0] else .tuple #[.int .i64 0, .int .i64 2]

theorem isH_range {h : Int} (hh : isH h = true) : -100000 ≤ h ∧ h ≤ 100000 := by
  unfold isH at hh; simp only [Bool.and_eq_true, decide_eq_true_eq] at hh; exact hh

set_option maxRecDepth 100000 in
set_option maxHeartbeats 800000 in
theorem implWD_any (h k : Int) (w : World) : Calls Try.prog 18 #[.int .i64 h, .int .i64 k] w fun e w' => e = .returned (ansWD h k) ∧ w = w' := by
  have H1 := Lib.hid (fun w => isHeight_any h w)
  have H2 := Lib.hid (fun w => isHeight_any k w)
  have HD := Lib.hid (fun (a : isH h = true) (b : isH k = true) w => wrappedDiff_any h k (isH_range a) (isH_range b) w)
  have HR : Hid (ansWD h k = if isH h && isH k then .tuple #[.int .i64 (lessH h k), .int .i64 0] else .tuple #[.int .i64 0, .int .i64 2]) := Lib.hid rfl
  generalize isH h = p at *
  generalize isH k = q at *
  cases p
  · go_enter Try.func18, Try.ntmps18
    go_wp2_with fail
    refine (H1.out _).mono ?_
    rintro e w1 ⟨rfl, rfl⟩
    go_wp2_with fail
    go_ret2
    exact ⟨by rw [HR.out]; rfl, by trivial⟩
  · cases q
    · go_enter Try.func18, Try.ntmps18
      go_wp2_with fail
      refine (H1.out _).mono ?_
      rintro e w1 ⟨rfl, rfl⟩
      go_wp2_with fail
      refine (H2.out _).mono ?_
      rintro e w1 ⟨rfl, rfl⟩
      go_wp2_with fail
      go_ret2
      exact ⟨by rw [HR.out]; rfl, by trivial⟩
    · have HD2 := Lib.hid (HD.out rfl rfl)
      clear HD
      go_enter Try.func18, Try.ntmps18
      go_wp2_with fail
      refine (H1.out _).mono ?_
      rintro e w1 ⟨rfl, rfl⟩
      go_wp2_with fail
      refine (H2.out _).mono ?_
      rintro e w1 ⟨rfl, rfl⟩
      go_wp2_with fail
      refine (HD2.out _).mono ?_
      rintro e w1 ⟨rfl, rfl⟩
      go_wp2_with fail
      go_ret2
      exact ⟨by rw [HR.out]; rfl, by trivial⟩

set_option maxRecDepth 100000 in
set_option maxHeartbeats 800000 in
theorem specWD_any (h k : Int) (w : World) : Calls Try.prog 19 #[.int .i64 h, .int .i64 k] w fun e w' => e = .returned (ansWD h k) ∧ w = w' := by
  have H1 : Hid (∀ w, Calls Try.prog 57 #[.int .i64 h, .int .i64 (-100000), .int .i64 100000] w fun e w' => e = .returned (.bool (isH h)) ∧ w = w') := Lib.hid (fun w => l01In_b h (-100000) 100000 w)
  have H2 : Hid (∀ w, Calls Try.prog 57 #[.int .i64 k, .int .i64 (-100000), .int .i64 100000] w fun e w' => e = .returned (.bool (isH k)) ∧ w = w') := Lib.hid (fun w => l01In_b k (-100000) 100000 w)
  have HD := Lib.hid (fun (a : isH h = true) (b : isH k = true) w => l07Less_any h k (isH_range a) (isH_range b) w)
  have HR : Hid (ansWD h k = if isH h && isH k then .tuple #[.int .i64 (lessH h k), .int .i64 0] else .tuple #[.int .i64 0, .int .i64 2]) := Lib.hid rfl
  generalize isH h = p at *
  generalize isH k = q at *
  cases p
  · go_enter Try.func19, Try.ntmps19
    go_wp2_with fail
    refine (H1.out _).mono ?_
    rintro e w1 ⟨rfl, rfl⟩
    go_wp2_with fail
    go_ret2
    exact ⟨by rw [HR.out]; rfl, by trivial⟩
  · cases q
    · go_enter Try.func19, Try.ntmps19
      go_wp2_with fail
      refine (H1.out _).mono ?_
      rintro e w1 ⟨rfl, rfl⟩
      go_wp2_with fail
      refine (H2.out _).mono ?_
      rintro e w1 ⟨rfl, rfl⟩
      go_wp2_with fail
      go_ret2
      exact ⟨by rw [HR.out]; rfl, by trivial⟩
    · have HD2 := Lib.hid (HD.out rfl rfl)
      clear HD
      go_enter Try.func19, Try.ntmps19
      go_wp2_with fail
      refine (H1.out _).mono ?_
      rintro e w1 ⟨rfl, rfl⟩
      go_wp2_with fail
      refine (H2.out _).mono ?_
      rintro e w1 ⟨rfl, rfl⟩
      go_wp2_with fail
      refine (HD2.out _).mono ?_
      rintro e w1 ⟨rfl, rfl⟩
      go_wp2_with fail
      go_ret2
      exact ⟨by rw [HR.out]; rfl, by trivial⟩

end Go.Proofs.Ytjmfffgddmnkmac

namespace Go.Proofs.Ytjmfffgddmnkmac
open Go Go.RowKit

/-- a list's block lies between two numbers -/
def Rng (v : Value) (lo hi : Nat) : Prop := ∀ k, v.ownBlock = some k → lo ≤ k ∧ k < hi
theorem Own.rng {B : Nat} {v : Value} {L : List Int} {w : World} (h : Own B v L w) : Rng v B w.heap.size := World.ownsRow.lt h
theorem Own.grown {B lo hi : Nat} {v : Value} {L : List Int} {w w' : World} {row : Option Nat} (h : Own B v L w) (g : w.grownBy w' row) (r : Rng v lo hi) (a : ∀ k, row = some k → k < lo ∨ hi ≤ k) : Own B v L w' := by
  refine World.ownsRow.kept h g ?_
  cases hb : v.ownBlock
  · exact .inl rfl
  · right
    intro e
    have := r _ hb
    have := a _ e.symm
    omega

/-- what is asked of program and model: a list and a code, in memory of their own -/
def Lists (f : FuncId) (n : Int) (L R : List Int) (c : Int) : Prop :=
  L.length ≤ 1048576 → ∀ v w, Own 0 v L w → Calls Try.prog f #[.int .i64 n, v] w fun e w' => ∃ r, e = .returned (.tuple #[r, .int .i64 c]) ∧ Own w.heap.size r R w' ∧ Below w.heap.size w w'

end Go.Proofs.Ytjmfffgddmnkmac
