/- The program's coverage: counts in a map keyed by places, then a list. Condition: a list that a law lets in. -/
import Derived.Test.YtjmfffgddmnkmabCq
import Derived.Test.YtjmfffgddmnkmabCe
import Derived.Deep.RegionHeld3
import Derived.Deep.RegionLaw
namespace Go.Proofs.Ytjmfffgddmnkmab
open Go Go.RowKit Go.Maps

/-- the map D holds the counts C -/
def Rep (n : Nat) (D : DataW Unit) (C : List Int) : Prop :=
  (∀ r c, r < n → c < n → D.atKey (pk r c) (.lit (.int .i64 0)) = .lit (.int .i64 (C.getD (n * r + c) 0))) ∧ (∀ kl, Maps.has D kl = true → ∃ r c, r < n ∧ c < n ∧ kl = pk r c)

theorem cell_one {n r c a b : Nat} (hc : c < n) (hb : b < n) (h : n * r + c = n * a + b) : r = a ∧ c = b := by
  have h1 : (n * r + c) / n = r := by rw [Nat.mul_add_div (by omega), Nat.div_eq_of_lt hc, Nat.add_zero]
  have h2 : (n * a + b) / n = a := by rw [Nat.mul_add_div (by omega), Nat.div_eq_of_lt hb, Nat.add_zero]
  have e : r = a := by rw [← h1, ← h2, h]
  subst e
  exact ⟨rfl, by omega⟩
theorem Rep.start (n : Nat) : Rep n (.map []) (List.replicate (n * n) 0) := by
  refine ⟨fun r c _ _ => ?_, fun kl h => by cases h⟩
  rw [List.getD_eq_getElem?_getD, List.getElem?_replicate]
  split <;> rfl
theorem Rep.put {n : Nat} {D : DataW Unit} {C : List Int} (h : Rep n D C) (hM : IsMap D) (hn : n ≤ 8) (hl : C.length = n * n) {r c : Nat} (hr : r < n) (hc : c < n) :
    Rep n (D.put (pk r c) (.lit (.int .i64 (C.getD (n * r + c) 0 + 1)))) (bump C (n * r + c)) := by
  have hlt : n * r + c < C.length := by
    rw [hl]
    calc n * r + c < n * r + n := by omega
      _ = n * (r + 1) := by rw [Nat.mul_add, Nat.mul_one]
      _ ≤ n * n := Nat.mul_le_mul_left n (by omega)
  refine ⟨fun a b ha hb => ?_, fun kl hk => ?_⟩
  · rw [bump_get C _ _ hlt]
    by_cases e : n * r + c = n * a + b
    · obtain ⟨rfl, rfl⟩ := cell_one hc hb e
      rw [if_pos rfl, atKey_put_same hM (pk_key (by omega) (by omega))]
    · rw [if_neg e, atKey_put_other (fun e2 => e (by obtain ⟨rfl, rfl⟩ := pk_inj (by omega) (by omega) (by omega) (by omega) e2; rfl))]
      exact h.1 a b ha hb
  · by_cases e : kl = pk r c
    · exact ⟨r, c, hr, hc, e⟩
    · rw [has_put_other e] at hk
      exact h.2 kl hk

/-- the place at which a patch begins lies in block p -/
def PlAt (p r c : Nat) (w : World) : Prop := w.heap[p]? = some (.cells #[.int .i64 r, .int .i64 c] 109 (0, 0))

/-- the list as far as the map has been read: 0 at the places that are left -/
def rowOf (n : Nat) (C : List Int) (left : Lit → Bool) : List Int := (List.range (n * n)).map (fun i => if left (pk (i / n) (i % n)) then 0 else C.getD i 0)
theorem rowOf_len (n : Nat) (C : List Int) (left : Lit → Bool) : (rowOf n C left).length = n * n := by simp [rowOf]
theorem rowOf_start {n : Nat} {D : DataW Unit} {C : List Int} (h : Rep n D C) (hn : 0 < n) : List.replicate (n * n) 0 = rowOf n C (Maps.has D) := by
  apply List.ext_getElem
  · simp [rowOf]
  · intro i h1 h2
    have hi : i < n * n := by simpa using h1
    simp only [rowOf, List.getElem_replicate, List.getElem_map, List.getElem_range]
    cases hh : Maps.has D (pk (i / n) (i % n))
    · have h3 := h.1 (i / n) (i % n) (Nat.div_lt_of_lt_mul hi) (Nat.mod_lt _ hn)
      rw [atKey_of_not_has hh, Nat.div_add_mod] at h3
      have h4 : (0 : Int) = C.getD i 0 := by
        injection h3 with h3
        injection h3
      rw [← h4]
      rfl
    · rfl
theorem rowOf_end {n : Nat} {C : List Int} (hl : C.length = n * n) {left : Lit → Bool} (h : ∀ kl, left kl = false) : rowOf n C left = C := by
  apply List.ext_getElem
  · simp [rowOf, hl]
  · intro i h1 h2
    simp only [rowOf, List.getElem_map, List.getElem_range, h]
    simp [List.getD_eq_getElem?_getD, h2]
theorem rowOf_step {n : Nat} {C : List Int} {left : Lit → Bool} (hn : n ≤ 8) {r c : Nat} (hr : r < n) (hc : c < n) :
    (rowOf n C left).set (n * r + c) (C.getD (n * r + c) 0) = rowOf n C (fun z => left z && !z.sameKey (pk r c)) := by
  apply List.ext_getElem
  · simp [rowOf]
  · intro i h1 h2
    have hi : i < n * n := by simpa [rowOf] using h2
    have hdn : i / n < n := Nat.div_lt_of_lt_mul hi
    have hmn : i % n < n := Nat.mod_lt _ (by omega)
    rw [List.getElem_set]
    simp only [rowOf, List.getElem_map, List.getElem_range]
    by_cases e : n * r + c = i
    · have e2 : n * (i / n) + i % n = n * r + c := by rw [Nat.div_add_mod, e]
      obtain ⟨e3, e4⟩ := cell_one hmn hc e2
      rw [if_pos e, e3, e4, WideAt.sameKey_self (pk_key (by omega) (by omega)), e]
      simp
    · have hne : pk (i / n) (i % n) ≠ pk r c := fun e2 => e (by
        obtain ⟨e3, e4⟩ := pk_inj (by omega) (by omega) (by omega) (by omega) e2
        rw [← e3, ← e4, Nat.div_add_mod])
      rw [if_neg e, sameKey_ne hne]
      simp

/-- a step through the map: the places that are left are places of the side n -/
theorem wpList_next_pl {w : World} {ops : Array Oper} {rest : List Oper} {o : Oper} {a : Act} {Q : Exit → Act → World → Prop} (hg : o.guard = none) (it : Operand) (hop : o.op = Op.next it false) (N : Nat) (hN : N ≤ 8)
    (b p n : Nat) (D : DataW Unit) (left : Lit → Bool) (cnt : Nat) (hit : a.eval it = .pointer (some ⟨p, 0, none⟩)) (h : w.ranges Try.prog 109 (plainElem (H := Unit) Try.prog 2) b p n D left cnt)
    (hleft : ∀ kl, left kl = true → ∃ r c, r < N ∧ c < N ∧ kl = pk r c)
    (hDone : (∀ kl, left kl = false) → wpList Try.prog ops Q rest (a.put o.dst (.tuple #[.bool false])) w)
    (hMore : ∀ (r c : Nat) (x : Int) (w' : World) (cnt' : Nat), r < N → c < N → D.atKey (pk r c) (.lit (.int .i64 0)) = .lit (.int .i64 x) → w'.ranges Try.prog 109 (plainElem (H := Unit) Try.prog 2) b p n D (fun z => left z && !z.sameKey (pk r c)) cnt' → cnt' < cnt →
      w.grownBy w' (some p) → (Instr.entry (.pointer (some ⟨p, 0, none⟩))).run Try.prog w' = .ok (.tuple #[atV r c, .int .i64 x]) w' → wpList Try.prog ops Q rest (a.put o.dst (.tuple #[.bool true, atV r c, .int .i64 x])) w') :
    wpList Try.prog ops Q (o :: rest) a w := by
  refine wpList_plain hg fun K' hK' => ?_
  unfold Oper.wp
  rcases h.next keyedPl o.type with ⟨_, hl, hrun⟩ | ⟨key, v, kl, y, w', cnt', hkey, hlk, hv, hat, hrun, hrg, hlt, hgr, _, hen⟩
  · simp [execOp, hop, hit, hrun, Result.andThen]
    exact hK' _ _ (hDone hl)
  · obtain ⟨r, c, hr, hc, rfl⟩ := hleft kl hlk
    obtain rfl := keyedPl.inj hkey (key_pk (by omega) (by omega))
    obtain ⟨x, rfl, rfl, _⟩ := plainElem_int_inv Try.underlying2 hv
    simp [execOp, hop, hit, hrun, Result.andThen]
    exact hK' _ _ (hMore r c x w' cnt' hr hc (hat _) hrg hlt hgr hen)

set_option maxRecDepth 100000 in
set_option maxHeartbeats 6400000 in
theorem implCov_yes (n m : Int) (k : Nat) (F : List Int) (h : arePat n m k F = true) : Covs 47 n m k F (covAll n.toNat m.toNat F k) 0 := by
  intro hk v w hO
  obtain ⟨hs1, hs2, hmn, hk20, hat⟩ := arePat_yes h
  obtain ⟨a, cap, rfl, hC⟩ := hO.came
  have HI := Lib.hid (arePat_any n m a k cap F w hC hk)
  rw [h] at HI
  obtain ⟨N, rfl⟩ : ∃ N : Nat, n = N := ⟨n.toNat, by rcases side_yes n hs1 with rfl | rfl | rfl | rfl <;> rfl⟩
  obtain ⟨M, rfl⟩ : ∃ M : Nat, m = M := ⟨m.toNat, by rcases side_yes m hs2 with rfl | rfl | rfl | rfl <;> rfl⟩
  have hN8 : N ≤ 8 := by rcases side_yes _ hs1 with h | h | h | h <;> omega
  have hN1 : 0 < N := by rcases side_yes _ hs1 with h | h | h | h <;> omega
  have hM8 : M ≤ N := by omega
  have HC := Lib.hid (fun i hi => CameP.at hC i hi)
  have HAt := Lib.hid (fun i hi => areAt_get hat i hi)
  rw [show ((N : Int)).toNat = N from by simp, show ((M : Int)).toNat = M from by simp]
  clear h hC hO hs1 hs2 hat hmn
  have hmm := @run_makeMap Try.prog
  have aa := Try.isAgg109
  have zz := Try.sizeOf109
  go_enter Try.func47, Try.ntmps47
  go_wp2_with fail
  refine HI.out.mono ?_
  rintro e w1 ⟨rfl, k1⟩
  have B1 := Lib.hid (k1.alloc k1.size (.map #[] 0))
  have C1 : Hid (Cnt (w1.alloc (.map #[] 0)) w1.heap.size 0 (.map [])) := Lib.hid (World.ownsMap_made _ _ _ _)
  have HMB : Hid (w.heap.size ≤ w1.heap.size) := Lib.hid k1.size
  clear k1
  go_wp2_with fail
  generalize hmb : w1.heap.size = mb at *
  clear hmb
  go_loopw [24] (fun i wr => ∃ j : Nat, ∃ q D, j ≤ k ∧ i = .int .i64 j ∧ Hid (q ≤ j * 64) ∧ Hid (Cnt wr mb q D) ∧ Hid (Rep N D (covAll N M F j)) ∧ Hid (Below w.heap.size w wr)) (fun i _ => k - (intOf i).toNat)
  case atStart => exact ⟨0, 0, _, by omega, rfl, Lib.hid (by omega), C1, Lib.hid (Rep.start N), B1⟩
  case round =>
    obtain ⟨j, q, D, hj, rfl, HQ, HD, HR, B2⟩ := hrel
    by_cases hlt : j < k
    · have hdk : decide ((j : Int) < (k : Int)) = true := by simp; omega
      have hj1 : IntKind.i64.wrap ((j : Int) + 1) = ((j + 1 : Nat) : Int) := by rw [← Int.natCast_succ]; exact IntWalk.i64_in _ (by omega)
      obtain ⟨b, off, rfl, hb, hc0, hc1⟩ := HC.out j hlt
      have c0 := (B2.out.cell (p := ⟨b, off + j * 2, none⟩) hb).trans hc0
      have c1 := (B2.out.cell (p := ⟨b, off + j * 2 + 1, none⟩) hb).trans hc1
      obtain ⟨r, c, hr0, hc0', hr, hc⟩ := isAt_nat (HAt.out j hlt)
      have HF : Hid (covMid N M r c (covAll N M F j) M = covAll N M F (j + 1)) := Lib.hid (by rw [covAll, hr0, hc0', Int.toNat_natCast, Int.toNat_natCast])
      have HU := Lib.hid (upto_all N M F j)
      have HL : Hid ((covAll N M F j).length = N * N) := Lib.hid (covAll_len N M F j)
      rw [hr0] at c0
      rw [hc0'] at c1
      clear hb hc0 hc1 hr0 hc0'
      go_wp2_with fail
      have HP1 : Hid (PlAt wr.heap.size r c (wr.alloc (.cells #[.int .i64 r, .int .i64 c] 109))) := Lib.hid (heap_alloc_new wr _)
      have HD1 : Hid (Cnt (wr.alloc (.cells #[.int .i64 r, .int .i64 c] 109)) mb q D) := Lib.hid (World.ownsMap.alloc HD.out _)
      have B3 := Lib.hid (B2.out.alloc B2.out.size (.cells #[.int .i64 r, .int .i64 c] 109))
      have HNE : Hid (wr.heap.size ≠ mb) := Lib.hid (by have := HD.out.lt; omega)
      clear c0 c1
      generalize hpb : wr.heap.size = pb at *
      clear hpb HD B2
      go_loopw [29] (fun i wv => ∃ y : Nat, ∃ q D, y ≤ M ∧ i = .int .i64 y ∧ Hid (q ≤ j * 64 + y * 8) ∧ Hid (Cnt wv mb q D) ∧ Hid (Rep N D (covMid N M r c (covAll N M F j) y)) ∧ Hid (PlAt pb r c wv) ∧ Hid (Below w.heap.size w wv)) (fun i _ => M - (intOf i).toNat)
      case atStart => exact ⟨0, q, D, by omega, rfl, Lib.hid (by have := HQ.out; omega), HD1, HR, HP1, B3⟩
      case round =>
        obtain ⟨y, q, D, hy, rfl, HQ, HD, HR, HP, B⟩ := hrel
        by_cases hlty : y < M
        · have hdy : decide ((y : Int) < (M : Int)) = true := by simp; omega
          have hy1 : IntKind.i64.wrap ((y : Int) + 1) = ((y + 1 : Nat) : Int) := by rw [← Int.natCast_succ]; exact IntWalk.i64_in _ (by omega)
          have HF2 : Hid (covIn N r c y (covMid N M r c (covAll N M F j) y) M = covMid N M r c (covAll N M F j) (y + 1)) := Lib.hid rfl
          have HU2 := Lib.hid (HU.out.covMid N M r c y)
          have HL2 : Hid ((covMid N M r c (covAll N M F j) y).length = N * N) := Lib.hid (by rw [covMid_len]; exact HL.out)
          generalize covMid N M r c (covAll N M F j) y = G at *
          go_wp2_with fail
          go_loopw [33] (fun i wv => ∃ x : Nat, ∃ q D, x ≤ M ∧ i = .int .i64 x ∧ Hid (q ≤ j * 64 + y * 8 + x) ∧ Hid (Cnt wv mb q D) ∧ Hid (Rep N D (covIn N r c y G x)) ∧ Hid (PlAt pb r c wv) ∧ Hid (Below w.heap.size w wv)) (fun i _ => M - (intOf i).toNat)
          case atStart => exact ⟨0, q, D, by omega, rfl, Lib.hid (by have := HQ.out; omega), HD, HR, HP, B⟩
          case round =>
            obtain ⟨x, q, D, hx, rfl, HQx, HDx, HRx, HPx, Bx⟩ := hrel
            by_cases hltx : x < M
            · have hdx : decide ((x : Int) < (M : Int)) = true := by simp; omega
              have hx1 : IntKind.i64.wrap ((x : Int) + 1) = ((x + 1 : Nat) : Int) := by rw [← Int.natCast_succ]; exact IntWalk.i64_in _ (by omega)
              obtain ⟨r1, hr1⟩ : ∃ r1, (r + y) % N = r1 := ⟨_, rfl⟩
              obtain ⟨c1, hc1⟩ : ∃ c1, (c + x) % N = c1 := ⟨_, rfl⟩
              have HMV : Hid (∀ u, Calls Try.prog 111 #[.agg #[.int .i64 r, .int .i64 c], .int .i64 N, .int .i64 y, .int .i64 x] u fun e w' => e = .returned (.agg #[.int .i64 r1, .int .i64 c1]) ∧ Below u.heap.size u w') := Lib.hid (fun u => by
                have h := moved_any r c N y x hr hc hN8 (by omega) (by omega) u
                rw [hr1, hc1] at h
                exact h)
              go_wp2_with fail
              have hcell : cellAt N r c y x = N * r1 + c1 := by rw [← hr1, ← hc1]; rfl
              have hr1N : r1 < N := by rw [← hr1]; exact Nat.mod_lt _ hN1
              have hc1N : c1 < N := by rw [← hc1]; exact Nat.mod_lt _ hN1
              have hkey := key_pk (r := r1) (c := c1) (by omega) (by omega)
              obtain ⟨x0, hx0⟩ : ∃ x0, (covIn N r c y G x).getD (N * r1 + c1) 0 = x0 := ⟨_, rfl⟩
              have hxb : 0 ≤ x0 ∧ x0 ≤ 1000000 := by
                have h1 := HU2.out.covIn N r c y x (N * r1 + c1)
                rw [hx0] at h1
                have h2 : j * (M * M) ≤ 20 * (8 * 8) := Nat.mul_le_mul (by omega) (Nat.mul_le_mul (by omega) (by omega))
                have h3 : y * M ≤ 8 * 8 := Nat.mul_le_mul (by omega) (by omega)
                omega
              have hwx : IntKind.i64.wrap (x0 + 1) = x0 + 1 := IntWalk.i64_in _ (by omega)
              have hwf : (Lit.int .i64 (x0 + 1)).wf = true := WalkArith.wf_i64 (by omega)
              have HRN : Hid (Rep N (D.put (pk r1 c1) (.lit (.int .i64 (x0 + 1)))) (covIn N r c y G (x + 1))) := Lib.hid (by
                rw [covIn, hcell, ← hx0]
                exact HRx.out.put HDx.out.isMap hN8 (by rw [covIn_len]; exact HL2.out) hr1N hc1N)
              have hat0 : D.atKey (pk r1 c1) (.lit (.int .i64 0)) = .lit (.int .i64 x0) := by rw [HRx.out.1 r1 c1 hr1N hc1N, hx0]
              have hqm : q < maxLen := by have := HQx.out; have : j * 64 ≤ 20 * 64 := Nat.mul_le_mul_right _ (by omega); have : y * 8 ≤ 8 * 8 := Nat.mul_le_mul_right _ (by omega); unfold maxLen; omega
              clear hr1 hc1 hcell hxb
              refine wp_region_noPanic ?_
              refine wp_region_held_drew (S := PlAt pb r c) (by kernel_rfl) HPx.out (fun hHeld => ?_)
              refine wpAnyH_take (i := 0) (v := .map (some mb)) rfl (by kernel_rfl) (by kernel_rfl) (by kernel_rfl) (fun _ _ _ h => h) (Or.inl ⟨by rfl, fun w' hSw => by go_simp⟩) hHeld ?_
              simp only [Act.put]
              refine wpAnyH_take (i := 1) (v := .agg #[.int .i64 r, .int .i64 c]) rfl (by kernel_rfl) (by kernel_rfl) (by kernel_rfl) (fun _ _ _ h => h) (Or.inl ⟨by rfl, fun w' hSw => by have g0 := (cell_of_row _ _ 0 _ _ _ hSw); have g1 := (cell_of_row _ _ 1 _ _ _ hSw); simp only [List.getElem?_toArray, List.getElem?_cons_zero, List.getElem?_cons_succ] at g0 g1; go_simp⟩) hHeld ?_
              simp only [Act.put]
              refine wpAnyH_take (i := 2) (v := .int .i64 N) rfl (by kernel_rfl) (by kernel_rfl) (by kernel_rfl) (fun _ _ _ h => h) (Or.inl ⟨by rfl, fun w' hSw => by go_simp⟩) hHeld ?_
              simp only [Act.put]
              refine wpAnyH_take (i := 3) (v := .int .i64 y) rfl (by kernel_rfl) (by kernel_rfl) (by kernel_rfl) (fun _ _ _ h => h) (Or.inl ⟨by rfl, fun w' hSw => by go_simp⟩) hHeld ?_
              simp only [Act.put]
              refine wpAnyH_take (i := 4) (v := .int .i64 x) rfl (by kernel_rfl) (by kernel_rfl) (by kernel_rfl) (fun _ _ _ h => h) (Or.inl ⟨by rfl, fun w' hSw => by go_simp⟩) hHeld ?_
              simp only [Act.put]
              refine wpAnyH_ready (rs := [5]) (by kernel_rfl) (by simp) ?_
              refine AllReadyH.cons (o := _) rfl (fun K hK => ?_) AllReadyH.nil
              rw [if_pos (by rfl)]
              go_simp
              refine (HMV.out _).mono ?_
              rintro e w3 ⟨rfl, k3⟩
              have hS3 : PlAt pb r c w3 := (k3.block pb (by have := (Array.getElem?_eq_some_iff.1 HPx.out).1; exact this)).trans HPx.out
              have hD3 : Cnt w3 mb q D := Cnt.below (show Cnt wr.drew mb q D from HDx.out) k3 (Nat.le_refl _)
              obtain ⟨x2, hl1, hl2⟩ := hD3.look hkey
              rw [hat0] at hl2
              obtain rfl : x0 = x2 := by injection hl2 with hl2; injection hl2
              obtain ⟨v0, st, w4, he1, he2, he3, he4, he5⟩ := hD3.entry hqm hkey
              have hS4 : PlAt pb r c w4 := (he2.block pb (by have := (Array.getElem?_eq_some_iff.1 hS3).1; omega) (by intro e; injection e with e; exact HNE.out e)).trans hS3
              obtain ⟨x3, hm1, hm2⟩ := he4 w4 rfl
              rw [hat0] at hm2
              obtain rfl : x0 = x3 := by injection hm2 with hm2; injection hm2
              unfold atV at hl1 hm1 he1
              refine hK.out _ _ hS3 (fun hHeld3 => ?_)
              clear hK K hHeld
              refine wpAnyH_ready (rs := [6, 8]) (by kernel_rfl) (by simp) ?_
              refine AllReadyH.cons (o := _) rfl (fun K hK => ?_) (AllReadyH.cons (o := _) rfl (fun K hK => ?_) AllReadyH.nil)
              · rw [if_pos (by rfl)]
                go_simp
                refine hK.out _ _ hHeld3 (fun hHeldA => ?_)
                clear hK K
                refine wpAnyH_take (i := 7) (v := .int .i64 (x0 + 1)) rfl (by kernel_rfl) (by kernel_rfl) (by kernel_rfl) (fun _ _ _ h => h) (Or.inl ⟨by rfl, fun w' hSw => by go_simp⟩) hHeldA ?_
                simp only [Act.put]
                refine wpAnyH_ready (rs := [8]) (by kernel_rfl) (by simp) ?_
                refine AllReadyH.cons (o := _) rfl (fun K hK => ?_) AllReadyH.nil
                rw [if_pos (by rfl)]
                go_simp
                refine hK.out _ _ hS4 (fun hHeld4 => ?_)
                clear hK K
                refine wpAnyH_take (i := 9) (v := st) rfl (by kernel_rfl) (by kernel_rfl) (by kernel_rfl) (fun _ _ _ h => h) (Or.inl ⟨by rfl, fun w' hSw => by go_simp⟩) hHeld4 ?_
                simp only [Act.put]
                obtain ⟨w5, hs1, hs2, hs3, hs4⟩ := he5 w4 (x0 + 1) rfl hwf
                have hS5 : PlAt pb r c w5 := (hs3.block pb (by have := (Array.getElem?_eq_some_iff.1 hS4).1; exact this) (by intro e; injection e with e; exact HNE.out e)).trans hS4
                refine wpAnyH_ready (rs := [10]) (by kernel_rfl) (by simp) ?_
                refine AllReadyH.cons (o := _) rfl (fun K hK => ?_) AllReadyH.nil
                rw [if_pos (by rfl)]
                go_simp
                refine hK.out _ _ hS5 (fun _ => ?_)
                clear hK K
                refine wpAnyH_done (by kernel_rfl) ?_ _
                refine NoPanic.normal ?_
                have HD5 : Hid (Cnt w5 mb (q + 1) (D.put (pk r1 c1) (.lit (.int .i64 (x0 + 1))))) := Lib.hid hs2
                have hle3 : w.heap.size ≤ w3.heap.size := Nat.le_trans Bx.out.size k3.size
                have HB5 : Hid (Below w.heap.size w w5) := Lib.hid (((below_drewN Bx.out 1).trans (k3.mono Bx.out.size)).trans (((Below.refl _ _).grown he2 hle3 (fun i hi => by injection hi with hi; subst hi; exact HMB.out)).trans ((Below.refl _ _).grown hs3 (by rw [he3]; exact hle3) (fun i hi => by injection hi with hi; subst hi; exact HMB.out))))
                have HS5 := Lib.hid hS5
                clear hs1 hs2 hs3 hs4 hS5 hS4 he1 he2 he3 he4 he5 hl1 hl2 hm1 hm2 hD3 hS3 k3 hle3
                go_wp2_with fail
                exact ⟨⟨x + 1, q + 1, _, by omega, by go_num, Lib.hid (by have := HQx.out; omega), HD5, HRN, HS5, HB5⟩, by simp [intOf]; omega⟩
              · rw [if_pos (by rfl)]
                go_simp
                refine hK.out _ _ hS4 (fun hHeld4 => ?_)
                clear hK K
                refine wpAnyH_take (i := 9) (v := st) rfl (by kernel_rfl) (by kernel_rfl) (by kernel_rfl) (fun _ _ _ h => h) (Or.inl ⟨by rfl, fun w' hSw => by go_simp⟩) hHeld4 ?_
                simp only [Act.put]
                refine wpAnyH_ready (rs := [6]) (by kernel_rfl) (by simp) ?_
                refine AllReadyH.cons (o := _) rfl (fun K hK => ?_) AllReadyH.nil
                rw [if_pos (by rfl)]
                go_simp
                refine hK.out _ _ hS4 (fun hHeld5 => ?_)
                clear hK K
                refine wpAnyH_take (i := 7) (v := .int .i64 (x0 + 1)) rfl (by kernel_rfl) (by kernel_rfl) (by kernel_rfl) (fun _ _ _ h => h) (Or.inl ⟨by rfl, fun w' hSw => by go_simp⟩) hHeld5 ?_
                simp only [Act.put]
                obtain ⟨w5, hs1, hs2, hs3, hs4⟩ := he5 w4 (x0 + 1) rfl hwf
                have hS5 : PlAt pb r c w5 := (hs3.block pb (by have := (Array.getElem?_eq_some_iff.1 hS4).1; exact this) (by intro e; injection e with e; exact HNE.out e)).trans hS4
                refine wpAnyH_ready (rs := [10]) (by kernel_rfl) (by simp) ?_
                refine AllReadyH.cons (o := _) rfl (fun K hK => ?_) AllReadyH.nil
                rw [if_pos (by rfl)]
                go_simp
                refine hK.out _ _ hS5 (fun _ => ?_)
                clear hK K
                refine wpAnyH_done (by kernel_rfl) ?_ _
                refine NoPanic.normal ?_
                have HD5 : Hid (Cnt w5 mb (q + 1) (D.put (pk r1 c1) (.lit (.int .i64 (x0 + 1))))) := Lib.hid hs2
                have hle3 : w.heap.size ≤ w3.heap.size := Nat.le_trans Bx.out.size k3.size
                have HB5 : Hid (Below w.heap.size w w5) := Lib.hid (((below_drewN Bx.out 1).trans (k3.mono Bx.out.size)).trans (((Below.refl _ _).grown he2 hle3 (fun i hi => by injection hi with hi; subst hi; exact HMB.out)).trans ((Below.refl _ _).grown hs3 (by rw [he3]; exact hle3) (fun i hi => by injection hi with hi; subst hi; exact HMB.out))))
                have HS5 := Lib.hid hS5
                clear hs1 hs2 hs3 hs4 hS5 hS4 he1 he2 he3 he4 he5 hl1 hl2 hm1 hm2 hD3 hS3 k3 hle3
                go_wp2_with fail
                exact ⟨⟨x + 1, q + 1, _, by omega, by go_num, Lib.hid (by have := HQx.out; omega), HD5, HRN, HS5, HB5⟩, by simp [intOf]; omega⟩
            · obtain rfl : x = M := by omega
              go_wp2_with fail
              exact ⟨⟨y + 1, q, D, by omega, by go_num, Lib.hid (by have := HQx.out; omega), HDx, Lib.hid (by rw [← HF2.out]; exact HRx.out), HPx, Bx⟩, by simp [intOf]; omega⟩
        · obtain rfl : y = M := by omega
          go_wp2_with fail
          exact ⟨⟨j + 1, q, D, by omega, by go_num, Lib.hid (by have := HQ.out; omega), HD, Lib.hid (by rw [← HF.out]; exact HR.out), B⟩, by simp [intOf]; omega⟩
    · obtain rfl : j = k := by omega
      obtain ⟨i0, hi, hz0, hz1, hz2⟩ := info_parts info64
      obtain ⟨K2, hK2⟩ : ∃ K2, N * N = K2 := ⟨_, rfl⟩
      have hn64 : K2 ≤ 64 := by rw [← hK2]; exact Nat.mul_le_mul hN8 hN8
      have hnn : IntKind.i64.wrap ((N : Int) * (N : Int)) = (K2 : Int) := by rw [← Int.natCast_mul, hK2]; exact IntWalk.i64_in _ (by omega)
      obtain ⟨C, hCE⟩ : ∃ C, covAll N M F j = C := ⟨_, rfl⟩
      have HL : Hid (C.length = N * N) := Lib.hid (by rw [← hCE]; exact covAll_len N M F j)
      rw [hCE] at HR
      have HCE := Lib.hid hCE
      have HK2 := Lib.hid hK2
      clear hCE hK2
      go_wp2_with (refine wpList_make_full _ rfl _ _ 36 rfl w.heap.size 2 i0 (.int .i64 0) 1 Try.underlying36 hi hz0 hz1 .i64 .i64 (K2 : Int) (K2 : Int) K2 rfl rfl rfl rfl ?b2 ?b3 ?b4 ?_)
      case b2 => rw [hz2]; omega
      case b3 => unfold maxLen; omega
      case b4 => exact B2.out.size
      intro w2 hown hgrow
      have HD2 : Hid (Cnt w2 mb q D) := Lib.hid (World.ownsMap.kept HD.out hgrow (by simp))
      have B3 : Hid (Below w.heap.size w w2) := Lib.hid (B2.out.grown hgrow B2.out.size (fun i hi => by cases hi))
      have HNE : Hid (wr.heap.size ≠ mb) := Lib.hid (by have := HD.out.lt; omega)
      have HG2 : Hid (w.heap.size ≤ wr.heap.size) := Lib.hid B2.out.size
      have O2 : Hid (Own w.heap.size (.slice (some ⟨wr.heap.size, 0, none⟩) K2 K2) (rowOf N C (Maps.has D)) w2) := by
        refine Lib.hid ?_
        have e : (madeCells #[Value.int .i64 0] K2).toList = (rowOf N C (Maps.has D)).map (Value.int .i64) := by
          rw [toList_madeCells_one, ← rowOf_start HR.out hN1, HK2.out]
          simp
        rw [e] at hown
        unfold Own
        rw [rowOf_len, HK2.out]
        exact hown
      clear hown hgrow hi hz0 hz1 hz2 B2 HD
      generalize hg : wr.heap.size = g at *
      clear hg
      go_wp2_with (at_range; refine wpList_range_own _ rfl _ 113 rfl 109 2 keyedPl Try.underlying113 _ mb q D rfl HD2.out ?_; intro w4 hrg hg0 hs0)
      have HRG := Lib.hid hrg
      have O4 : Hid (Own w.heap.size (.slice (some ⟨g, 0, none⟩) K2 K2) (rowOf N C (Maps.has D)) w4) := Lib.hid (World.ownsRow.kept O2.out hg0 (.inr (by simp [Value.ownBlock])))
      have B4 : Hid (Below w.heap.size w w4) := Lib.hid (B3.out.grown hg0 B3.out.size (fun i hi => by cases hi))
      have HNR : Hid (w2.heap.size ≠ g ∧ w.heap.size ≤ w2.heap.size) := Lib.hid ⟨by have := (World.ownsRow.lt O2.out g rfl).2; omega, B3.out.size⟩
      have HLT : Hid (∀ kl, Maps.has D kl = true → ∃ r c, r < N ∧ c < N ∧ kl = pk r c) := Lib.hid HR.out.2
      have HAT : Hid (∀ r c, r < N → c < N → D.atKey (pk r c) (.lit (.int .i64 0)) = .lit (.int .i64 (C.getD (N * r + c) 0))) := Lib.hid HR.out.1
      clear hrg hg0 hs0 HD2 O2 B3 HR
      generalize w2.heap.size = rb at *
      go_frame
      go_loopw [55] (fun _ wv => ∃ left cnt, Hid (wv.ranges Try.prog 109 (plainElem (H := Unit) Try.prog 2) mb rb q D left cnt) ∧ Hid (∀ kl, left kl = true → Maps.has D kl = true) ∧ Hid (Own w.heap.size (.slice (some ⟨g, 0, none⟩) K2 K2) (rowOf N C left) wv) ∧ Hid (Below w.heap.size w wv)) (fun _ wv => wv.rangeLeft mb rb)
      case atStart => exact ⟨_, _, HRG, Lib.hid (fun _ h => h), O4, B4⟩
      case round =>
        obtain ⟨left, cnt, HG, HLH, O, B⟩ := hrel
        go_wp2_with (at_next; refine wpList_next_pl rfl _ rfl N hN8 mb rb q D left cnt rfl HG.out (fun kl h => HLT.out kl (HLH.out kl h)) ?_ ?_)
        · intro hl0
          have O5 := O.out
          rw [rowOf_end HL.out hl0] at O5
          rw [← HCE.out] at O5
          have O6 := Lib.hid O5
          clear O5 hl0
          go_wp2_with fail
          go_ret2
          exact ⟨.slice (some ⟨g, 0, none⟩) K2 K2, rfl, O6.out, B.out⟩
        · intro r c x w5 cnt5 hr hc hat hrg hlt hg5 hen
          have hx : x = C.getD (N * r + c) 0 := by
            have h := hat.symm.trans (HAT.out r c hr hc)
            injection h with h
            injection h
          have hlt2 : N * r + c < N * N := by
            calc N * r + c < N * r + N := by omega
              _ = N * (r + 1) := by rw [Nat.mul_add, Nat.mul_one]
              _ ≤ N * N := Nat.mul_le_mul_left N (by omega)
          rw [HK2.out] at hlt2
          have B5 : Hid (Below w.heap.size w w5) := Lib.hid (B.out.grown hg5 B.out.size (fun i hi => by injection hi with hi; subst hi; exact HNR.out.2))
          have O5 : Hid (Own w.heap.size (.slice (some ⟨g, 0, none⟩) K2 K2) (rowOf N C left) w5) := Lib.hid (World.ownsRow.kept O.out hg5 (.inr (by simp only [Value.ownBlock, ne_eq, Option.some.injEq]; exact fun e => HNR.out.1 e.symm)))
          have HG5 := Lib.hid hrg
          have HLH5 : Hid (∀ kl, (left kl && !kl.sameKey (pk r c)) = true → Maps.has D kl = true) := Lib.hid (fun kl h => HLH.out kl (by rw [Bool.and_eq_true] at h; exact h.1))
          have HST : Hid ((rowOf N C left).set (N * r + c) x = rowOf N C (fun z => left z && !z.sameKey (pk r c))) := Lib.hid (by rw [hx]; exact rowOf_step hN8 hr hc)
          have HCNT : Hid (wr.rangeLeft mb rb = cnt) := Lib.hid HG.out.left_eq
          have HLT5 := Lib.hid hlt
          have HRB : Hid (mb < w5.heap.size ∧ rb < w5.heap.size) := Lib.hid ⟨(World.ranges.owns HG5.out).lt, World.ranges.lt HG5.out⟩
          unfold atV at hen
          clear hrg hx hat hg5 hlt O B HG
          obtain ⟨p, hp⟩ : ∃ p, N * r = p := ⟨_, rfl⟩
          rw [hp] at hlt2 HST
          have hm1 : IntKind.i64.wrap ((N : Int) * (r : Int)) = (p : Int) := by rw [← Int.natCast_mul, hp]; exact IntWalk.i64_in _ (by omega)
          clear hp
          obtain ⟨i, hi⟩ : ∃ i, p + c = i := ⟨_, rfl⟩
          rw [hi] at hlt2 HST
          have hm2 : IntKind.i64.wrap ((p : Int) + (c : Int)) = (i : Int) := by rw [← Int.natCast_add, hi]; exact IntWalk.i64_in _ (by omega)
          clear hi
          have O6 := O5.out.alloc (.cells #[.int .i64 r, .int .i64 c] 109)
          have O6' : Own w.heap.size (.slice (some ⟨g, 0, none⟩) (rowOf N C left).length K2) (rowOf N C left) (w5.alloc (.cells #[.int .i64 r, .int .i64 c] 109)) := by rw [rowOf_len, HK2.out]; exact O6
          have f := O6'.free i
          have c2 := O6'.cell i (by rw [rowOf_len, HK2.out]; exact hlt2)
          have O7 : Hid (Own w.heap.size (.slice (some ⟨g, 0, none⟩) K2 K2) (rowOf N C (fun z => left z && !z.sameKey (pk r c))) ((w5.alloc (.cells #[.int .i64 r, .int .i64 c] 109)).setCell ⟨g, i, none⟩ (.int .i64 x))) := Lib.hid (by
            have h := O6'.stored i x
            rw [HST.out, rowOf_len, HK2.out] at h
            exact h)
          have hgg : w.heap.size ≤ g := HG2.out
          have B7 : Hid (Below w.heap.size w ((w5.alloc (.cells #[.int .i64 r, .int .i64 c] 109)).setCell ⟨g, i, none⟩ (.int .i64 x))) := Lib.hid ((B5.out.alloc B5.out.size _).setCell (p := ⟨g, i, none⟩) hgg _)
          have HG7 : Hid (((w5.alloc (.cells #[.int .i64 r, .int .i64 c] 109)).setCell ⟨g, i, none⟩ (.int .i64 x)).ranges Try.prog 109 (plainElem (H := Unit) Try.prog 2) mb rb q D (fun z => left z && !z.sameKey (pk r c)) cnt5) := Lib.hid (by
            have h := World.ranges.alloc HG5.out (.cells #[.int .i64 r, .int .i64 c] 109)
            refine World.ranges.kept (row := some g) h ⟨rfl, rfl, rfl, by simp [World.setCell], fun j hj hne => Below.heap_setCell _ _ _ _ (fun e => hne (by rw [e]))⟩ ?_ ?_
            · intro e; injection e with e; exact HNE.out e.symm
            · intro e; injection e with e; exact HNR.out.1 e)
          clear O6 O6' hgg HST O5 B5 HG5
          generalize (rowOf N C left).getD i 0 = z at *
          go_wp2_with fail
          exact ⟨⟨_, _, HG7, HLH5, O7, B7⟩, by rw [HG7.out.left_eq, HCNT.out]; exact HLT5.out⟩

theorem implCov_no (n m : Int) (k : Nat) (F : List Int) (h : arePat n m k F = false) : Covs 47 n m k F [] 2 := by
  intro hk v w hO
  obtain ⟨a, cap, rfl, hC⟩ := hO.came
  have HI := Lib.hid (arePat_any n m a k cap F w hC hk)
  rw [h] at HI
  clear h hC hO
  go_enter Try.func47, Try.ntmps47
  go_wp2_with fail
  refine HI.out.mono ?_
  rintro e w1 ⟨rfl, k1⟩
  have B1 := Lib.hid k1
  clear k1
  go_wp2_with fail
  go_ret2
  exact ⟨_, rfl, Own.zero _ _, B1.out⟩

theorem implCov (n m : Int) (k : Nat) (F : List Int) : Covs 47 n m k F (covR n m k F) (covC n m k F) := by
  unfold covR covC
  cases h : arePat n m k F
  · exact implCov_no n m k F h
  · exact implCov_yes n m k F h

end Go.Proofs.Ytjmfffgddmnkmab
