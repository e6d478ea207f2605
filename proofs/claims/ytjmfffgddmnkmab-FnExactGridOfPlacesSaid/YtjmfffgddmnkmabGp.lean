/- Grids of places: what program and model answer. Condition: none. -/
import Derived.Test.YtjmfffgddmnkmabPq
import Derived.Test.YtjmfffgddmnkmabCv
import Derived.Test.YtjmfffgddmnkmabSide
namespace Go.Proofs.Ytjmfffgddmnkmab
open Go Go.RowKit

theorem run_pushP {ty : TypeId} (w : World) (B : Nat) (v : Value) (n : Nat) (F : List Int) (r c : Int) (g : Nat) (h0 : w.cell? ⟨g, 0, none⟩ = some (.int .i64 r)) (h1 : w.cell? ⟨g, 1, none⟩ = some (.int .i64 c)) (hO : OwnP B v n F w) (hn : n ≤ 1048576) (hB : B ≤ w.heap.size) :
    ∃ v' w', (Builtin.append_ #[59, 59] ty #[v, .slice (some ⟨g, 0, none⟩) 1 1]).run Try.prog w = .ok v' w' ∧ OwnP B v' (n + 1) (F ++ [r, c]) w' ∧ Below B w w' := by
  obtain ⟨i0, hi, hz0, hz1, hz2⟩ := info_parts infoP
  have hnews : ∀ j u, [Value.int .i64 r, Value.int .i64 c][j]? = some u → w.cell? ((⟨g, 0, none⟩ : Addr).add j) = some u := by
    intro j u hj
    match j, hj with
    | 0, hj => simp at hj; subst hj; exact h0
    | 1, hj => simp at hj; subst hj; exact h1
  have hone : ∀ u ∈ [Value.int .i64 r, Value.int .i64 c], u.oneCell' = true := by
    intro u hu
    rcases List.mem_cons.1 hu with rfl | hu
    · rfl
    · obtain rfl := List.mem_singleton.1 hu
      rfl
  obtain ⟨v', w', hr, hown, hgrow, _, _⟩ := run_append_own_at (P := Try.prog) w B 59 ty 109 i0 (.agg #[.int .i64 0, .int .i64 0]) 2 16 Try.underlying59 hi hz0 hz1 hz2 rfl (by decide) v n (F.map (Value.int .i64)) hO ⟨g, 0, none⟩ 1 1 [.int .i64 r, .int .i64 c] rfl hnews hone (by unfold maxLen; omega) (by omega) hB
  refine ⟨v', w', hr, ?_, (Below.refl B w).grown hgrow hB (fun j hj => (World.ownsRow.lt hO j hj).1)⟩
  unfold OwnP
  rw [List.map_append]
  exact hown

theorem wpList_pushP {ops : Array Oper} {rest : List Oper} {o : Oper} {a : Act} {Q : Exit → Act → World → Prop} {w : World} (hgd : o.guard = none) (s x : Operand)
    (ho : o.op = .call { callee := .builtin .append, args := #[s, x], argTypes := #[59, 59] }) (B : Nat) (v : Value) (n : Nat) (F : List Int) (r c : Int)
    (hs : a.eval s = v) (hx : a.eval x = .slice (some ⟨w.heap.size, 0, none⟩) 1 1) (hO : OwnP B v n F w) (hn : n ≤ 1048576) (hB : B ≤ w.heap.size)
    (h : ∀ v' w', OwnP B v' (n + 1) (F ++ [r, c]) w' → Below B w w' → wpList Try.prog ops Q rest (a.put o.dst v') w') : wpList Try.prog ops Q (o :: rest) a (w.alloc (.cells #[.int .i64 r, .int .i64 c] 109)) := by
  refine wpList_plain hgd fun _ hK => ?_
  obtain ⟨v', w', hr, h1, h2⟩ := run_pushP (ty := o.type) (w.alloc (.cells #[.int .i64 r, .int .i64 c] 109)) B v n F r c w.heap.size (World.cell?_alloc_at _ _ _ _ rfl) (World.cell?_alloc_at _ _ _ _ rfl) (hO.alloc _) hn (by rw [World.size_alloc]; omega)
  unfold Oper.wp execOp
  simp only [ho, resolve, invoke, builtin, Sem.run_bind, Sem.run_pure, Result.andThen_ok, List.map_toArray, List.map_cons, List.map_nil, hs, hx, hr]
  exact hK _ _ (h v' w' h1 (((Below.refl B w).alloc hB _).trans h2))

/-- what is asked of program and model: places and a code, in memory of their own -/
def Grids (f : FuncId) (n s : Int) (k : Nat) (R : List Int) (c : Int) : Prop :=
  ∀ w, Calls Try.prog f #[.int .i64 n, .int .i64 s] w fun e w' => ∃ r, e = .returned (.tuple #[r, .int .i64 c]) ∧ OwnP w.heap.size r k R w' ∧ Below w.heap.size w w'

/-- the number of places, the places, the code -/
def gridK (n s : Int) : Nat := if side n = true ∧ 1 ≤ s ∧ (gOut n.toNat s n.toNat).length / 2 ≤ 20 then (gOut n.toNat s n.toNat).length / 2 else 0
def gridR (n s : Int) : List Int := if side n = true ∧ 1 ≤ s ∧ (gOut n.toNat s n.toNat).length / 2 ≤ 20 then gOut n.toNat s n.toNat else []
def gridC (n s : Int) : Int := if side n = true ∧ 1 ≤ s ∧ (gOut n.toNat s n.toNat).length / 2 ≤ 20 then 0 else 2

theorem remS (y : Nat) (s : Int) : (y : Int).tmod s = (y : Int) % s := Int.tmod_eq_emod_of_nonneg (by omega)

set_option maxRecDepth 100000 in
set_option maxHeartbeats 1600000 in
theorem implGrid_any (n s : Int) (hn : side n = true) (hs : 1 ≤ s) : Grids 51 n s (gridK n s) (gridR n s) (gridC n s) := by
  intro w
  have HS := Lib.hid hn
  obtain ⟨m, rfl⟩ : ∃ m : Nat, n = m := ⟨n.toNat, by rcases side_yes n hn with rfl | rfl | rfl | rfl <;> rfl⟩
  have hm8 : m ≤ 8 := by rcases side_yes _ hn with h | h | h | h <;> omega
  have hlt1 : decide (s < 1) = false := by simp; omega
  have hs0 : s ≠ 0 := by omega
  clear hn
  go_enter Try.func51, Try.ntmps51
  go_wp2_with fail
  refine (isSide_any m _).mono ?_
  rw [HS.out]
  rintro e w1 ⟨rfl, rfl⟩
  go_wp2_with fail
  go_loopw [17, 6] (fun i p wr => ∃ y : Nat, ∃ k, y ≤ m ∧ i = .int .i64 y ∧ Hid (k ≤ y * m) ∧ Hid (OwnP w.heap.size p k (gOut m s y) wr) ∧ Hid (Below w.heap.size w wr)) (fun i _ _ => m - (intOf i).toNat)
  case atStart => exact ⟨0, 0, by omega, rfl, Lib.hid (by omega), Lib.hid (OwnP.zero _ _), Lib.hid (Below.refl _ _)⟩
  case round =>
    obtain ⟨y, k, hy, rfl, HK, O, B⟩ := hrel
    by_cases hlt : y < m
    · have hdk : decide ((y : Int) < (m : Int)) = true := by simp; omega
      go_wp2_with fail
      go_loopw [21, 6] (fun i p wv => ∃ x : Nat, ∃ k, x ≤ m ∧ i = .int .i64 x ∧ Hid (k ≤ y * m + x) ∧ Hid (OwnP w.heap.size p k (gIn s y (gOut m s y) x) wv) ∧ Hid (Below w.heap.size w wv)) (fun i _ _ => m - (intOf i).toNat)
      case atStart => exact ⟨0, k, by omega, rfl, Lib.hid (by have := HK.out; omega), O, B⟩
      case round =>
        obtain ⟨x, q, hx, rfl, HQ, O2, B2⟩ := hrel
        by_cases hlt2 : x < m
        · have hdk2 : decide ((x : Int) < (m : Int)) = true := by simp; omega
          have hx1 : IntKind.i64.wrap ((x : Int) + 1) = ((x + 1 : Nat) : Int) := by rw [← Int.natCast_succ]; exact IntWalk.i64_in _ (by omega)
          by_cases h1 : (y : Int) % s = 0
          · have e1 : (((y : Int).tmod s) == 0) = true := by rw [remS, h1]; rfl
            by_cases h2 : (x : Int) % s = 0
            · have e2 : (((x : Int).tmod s) == 0) = true := by rw [remS, h2]; rfl
              have HG := Lib.hid (gIn_yes (s := s) (gOut m s y) h1 h2)
              have hq : q ≤ 1048576 := by
                have := HQ.out
                have : y * m ≤ 8 * 8 := Nat.mul_le_mul (by omega) hm8
                omega
              have HQ1 := Lib.hid hq
              clear hq
              have g1 : (((y : Int) % s) == 0) = true := by rw [h1]; rfl
              have g2 : (((x : Int) % s) == 0) = true := by rw [h2]; rfl
              go_wp2_with (at_builtin; refine wpList_pushP rfl (.tmp 34) (.tmp 38) rfl w.heap.size _ q _ (y : Int) (x : Int) rfl rfl O2.out HQ1.out B2.out.size ?_)
              intro v3 w3 o3 k3
              rw [HG.out] at o3
              have O3 := Lib.hid o3
              have B3 := Lib.hid (B2.out.trans (k3.mono (Nat.le_refl _)))
              clear o3 k3
              go_wp2_with fail
              exact ⟨⟨x + 1, q + 1, by omega, by go_num, Lib.hid (by have := HQ.out; omega), O3, B3⟩, by simp [intOf]; omega⟩
            · have g1 : (((y : Int) % s) == 0) = true := by rw [h1]; rfl
              have g2 : (((x : Int) % s) == 0) = false := by simpa using h2
              have HG := Lib.hid (gIn_no (s := s) (y := y) (x := x) (gOut m s y) (fun h => h2 h.2))
              go_wp2_with fail
              exact ⟨⟨x + 1, q, by omega, by go_num, Lib.hid (by have := HQ.out; omega), Lib.hid (by rw [← HG.out]; exact O2.out), B2⟩, by simp [intOf]; omega⟩
          · have g1 : (((y : Int) % s) == 0) = false := by simpa using h1
            have HG := Lib.hid (gIn_no (s := s) (y := y) (x := x) (gOut m s y) (fun h => h1 h.1))
            go_wp2_with fail
            exact ⟨⟨x + 1, q, by omega, by go_num, Lib.hid (by have := HQ.out; omega), Lib.hid (by rw [← HG.out]; exact O2.out), B2⟩, by simp [intOf]; omega⟩
        · obtain rfl : x = m := by omega
          have hy1 : IntKind.i64.wrap ((y : Int) + 1) = ((y + 1 : Nat) : Int) := by rw [← Int.natCast_succ]; exact IntWalk.i64_in _ (by omega)
          go_wp2_with fail
          exact ⟨⟨y + 1, q, by omega, by go_num, Lib.hid (by have := HQ.out; rw [Nat.succ_mul]; omega), O2, B2⟩, by simp [intOf]; omega⟩
    · obtain rfl : y = m := by omega
      have hl := O.out.len
      have hk : k = (gOut y s y).length / 2 := by omega
      have HR := Lib.hid hk
      obtain ⟨ad, cp, e0, _⟩ := O.out.came
      subst e0
      by_cases hbig : k ≤ 20
      · have hd : decide ((k : Int) > 20) = false := by simp; omega
        have HKR : Hid (gridK (y : Int) s = k ∧ gridR (y : Int) s = gOut y s y ∧ gridC (y : Int) s = 0) := Lib.hid (by
          have hc : side (y : Int) = true ∧ 1 ≤ s ∧ (gOut (y : Int).toNat s (y : Int).toNat).length / 2 ≤ 20 := ⟨HS.out, hs, by rw [Int.toNat_natCast, ← hk]; exact hbig⟩
          refine ⟨?_, ?_, ?_⟩
          · unfold gridK; rw [if_pos hc, Int.toNat_natCast, ← hk]
          · unfold gridR; rw [if_pos hc, Int.toNat_natCast]
          · unfold gridC; rw [if_pos hc])
        clear hl hk
        go_wp2_with fail
        go_ret2
        obtain ⟨k1, k2, k3⟩ := HKR.out
        rw [k1, k2, k3]
        exact ⟨_, rfl, O.out, B.out⟩
      · have hd : decide ((k : Int) > 20) = true := by simp; omega
        have HKR : Hid (gridK (y : Int) s = 0 ∧ gridR (y : Int) s = [] ∧ gridC (y : Int) s = 2) := Lib.hid (by
          have hc : ¬ (side (y : Int) = true ∧ 1 ≤ s ∧ (gOut (y : Int).toNat s (y : Int).toNat).length / 2 ≤ 20) := fun h => by
            have := h.2.2
            rw [Int.toNat_natCast, ← hk] at this
            omega
          refine ⟨?_, ?_, ?_⟩
          · unfold gridK; rw [if_neg hc]
          · unfold gridR; rw [if_neg hc]
          · unfold gridC; rw [if_neg hc])
        clear hl hk
        go_wp2_with fail
        go_ret2
        obtain ⟨k1, k2, k3⟩ := HKR.out
        rw [k1, k2, k3]
        exact ⟨_, rfl, OwnP.zero _ _, B.out⟩

theorem grid_out {n s : Int} (h : ¬ (side n = true ∧ 1 ≤ s)) : gridK n s = 0 ∧ gridR n s = [] ∧ gridC n s = 2 := by
  have hc : ¬ (side n = true ∧ 1 ≤ s ∧ (gOut n.toNat s n.toNat).length / 2 ≤ 20) := fun e => h ⟨e.1, e.2.1⟩
  refine ⟨?_, ?_, ?_⟩
  · unfold gridK; rw [if_neg hc]
  · unfold gridR; rw [if_neg hc]
  · unfold gridC; rw [if_neg hc]

set_option maxRecDepth 100000 in
set_option maxHeartbeats 800000 in
theorem implGrid_no (n s : Int) (h : ¬ (side n = true ∧ 1 ≤ s)) : Grids 51 n s (gridK n s) (gridR n s) (gridC n s) := by
  intro w
  obtain ⟨k1, k2, k3⟩ := grid_out h
  rw [k1, k2, k3]
  cases hs : side n
  · have HS := Lib.hid hs
    clear hs h k1 k2 k3
    go_enter Try.func51, Try.ntmps51
    go_wp2_with fail
    refine (isSide_any n _).mono ?_
    rw [HS.out]
    rintro e w1 ⟨rfl, rfl⟩
    go_wp2_with fail
    go_ret2
    exact ⟨_, rfl, OwnP.zero _ _, Below.refl _ _⟩
  · have HS := Lib.hid hs
    have hlt1 : decide (s < 1) = true := by
      simp
      rcases Int.lt_or_le s 1 with h1 | h1
      · exact h1
      · exact absurd ⟨hs, h1⟩ h
    clear hs h k1 k2 k3
    go_enter Try.func51, Try.ntmps51
    go_wp2_with fail
    refine (isSide_any n _).mono ?_
    rw [HS.out]
    rintro e w1 ⟨rfl, rfl⟩
    go_wp2_with fail
    go_ret2
    exact ⟨_, rfl, OwnP.zero _ _, Below.refl _ _⟩

theorem implGrid (n s : Int) : Grids 51 n s (gridK n s) (gridR n s) (gridC n s) := by
  by_cases h : side n = true ∧ 1 ≤ s
  · exact implGrid_any n s h.1 h.2
  · exact implGrid_no n s h

end Go.Proofs.Ytjmfffgddmnkmab
