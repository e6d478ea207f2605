/- The law of unwrapping, before its walk: what program and model answer, with the lengths by themselves. Condition: none. A plane with small steps, wrapped, unwrapped by rows and asked for its slopes, as program and model tell it. Condition: steps below half a turn, a side. Where a map is unwrapped by rows and by a flood: what is asked there of program and model, and what holds of it. Condition: wrapped heights. -/
import Derived.Test.YtjmfffgddmnkmacM13
import Derived.Test.YtjmfffgddmnkmacM17
import Derived.Test.YtjmfffgddmnkmacM20
import Derived.Test.YtjmfffgddmnkmacSlb
import Derived.Test.YtjmfffgddmnkmacFdf
import Derived.Test.YtjmfffgddmnkmacFdh
import Derived.Test.YtjmfffgddmnkmacFdy
import Derived.Test.YtjmfffgddmnkmacIFl
namespace Go.Proofs.Ytjmfffgddmnkmac
open Go Go.RowKit

theorem own_cameN {B : Nat} {a : Option Addr} {n c : Nat} {L : List Int} {w : World} (h : Own B (.slice a n c) L w) : Came a n L w := by
  obtain ⟨a', c', e, hc⟩ := h.came
  injection e with e1 e2 e3
  subst e1; subst e2
  exact hc
theorem own_drewN {B : Nat} {v : Value} {L : List Int} {w : World} (h : Own B v L w) (d : Nat) : Own B v L (w.drewN d) := h.below (below_drewN (Below.refl w.heap.size w) d) (Nat.le_refl _)
/-- program and model answer one list and one code -/
theorem bothUr (n : Int) (L : List Int) (hL : L.length ≤ 65) : ∃ k, (resUr n L).length = k ∧ k ≤ 1048576 ∧ (∀ v w, Own 0 v L w → Calls Try.prog 7 #[.int .i64 n, v] w (AnsI k (resUr n L) (codeW n L) w)) ∧ ∀ v w, Own 0 v L w → Calls Try.prog 8 #[.int .i64 n, v] w (AnsI k (resUr n L) (codeW n L) w) :=
  ⟨_, rfl, resUr_len n L, fun v w h => (implUr n L).ans (by omega) v w h _ rfl, fun v w h => (specUr n L).ans (by omega) v w h _ rfl⟩
theorem bothRs (n : Int) (L : List Int) (hL : L.length ≤ 65) : ∃ k, (resRs n L).length = k ∧ k ≤ 1048576 ∧ (∀ v w, Own 0 v L w → Calls Try.prog 9 #[.int .i64 n, v] w (AnsI k (resRs n L) (codeW n L) w)) ∧ ∀ v w, Own 0 v L w → Calls Try.prog 10 #[.int .i64 n, v] w (AnsI k (resRs n L) (codeW n L) w) :=
  ⟨_, rfl, resRs_len n L, fun v w h => (implRs n L).ans (by omega) v w h _ rfl, fun v w h => (specRs n L).ans (by omega) v w h _ rfl⟩
theorem bothSl (n : Int) (L : List Int) (hL : L.length ≤ 65) : ∃ k, (resSl n L).length = k ∧ k ≤ 1048576 ∧ (∀ v w, Own 0 v L w → Calls Try.prog 21 #[.int .i64 n, v] w (AnsI k (resSl n L) (codeM n L) w)) ∧ ∀ v w, Own 0 v L w → Calls Try.prog 22 #[.int .i64 n, v] w (AnsI k (resSl n L) (codeM n L) w) :=
  ⟨_, rfl, resSl_len n L, fun v w h => (implSl n L).ans (by omega) v w h _ rfl, fun v w h => (specSl n L).ans (by omega) v w h _ rfl⟩

theorem allW_get {L : List Int} (h : L.all isW = true) (i : Nat) : 0 ≤ L.getD i 0 ∧ L.getD i 0 ≤ 63 := by
  by_cases hi : i < L.length
  · have := List.all_eq_true.1 h _ (List.getElem_mem hi)
    have e : L.getD i 0 = L[i] := by simp [List.getD_eq_getElem?_getD, List.getElem?_eq_getElem hi]
    rw [e]
    simpa [isW] using this
  · have e : L.getD i 0 = 0 := by rw [List.getD_eq_getElem?_getD, List.getElem?_eq_none (by omega)]; rfl
    rw [e]; omega
theorem resFlood_len (n s y x : Int) (L : List Int) (D : Array Value) : (resFlood n s y x L D).length ≤ 1048576 := by
  unfold resFlood
  split
  · rename_i h
    unfold codeFl at h
    split at h
    · omega
    split at h
    · omega
    split at h
    · omega
    rename_i a b c
    have h1 : isMap n L = true := by
      cases h1 : isMap n L with
      | true => rfl
      | false => exact absurd (by rw [h1]; rfl) a
    have h6 : L.all isW = true := by
      cases h6 : L.all isW with
      | true => rfl
      | false => exact absurd (by rw [h6]; rfl) c
    have h45 : inS n y = true ∧ inS n x = true := by
      cases h4 : inS n y with
      | false => exact absurd (by rw [h4, Bool.false_and, Bool.and_false]) b
      | true =>
        cases h5 : inS n x with
        | true => exact ⟨rfl, rfl⟩
        | false => exact absurd (by rw [h5, Bool.and_false, Bool.and_false]) b
    have h64 := map_le h1
    obtain ⟨m, rfl, hm1, hm8, hlen⟩ := isMap_nat h1
    obtain ⟨yn, rfl, hyn⟩ := inS_nat h45.1
    obtain ⟨xn, rfl, hxn⟩ := inS_nat h45.2
    have hl : (resFl m L.length (m * yn + xn) L (open_ D)).length = L.length := resFl_len hlen.symm h64 (place_in hlen.symm hyn hxn) (allW_get h6 _)
    have hl2 : (resFl ((m : Int)).toNat L.length (((m : Int)).toNat * ((yn : Int)).toNat + ((xn : Int)).toNat) L (open_ D)).length = L.length := hl
    rw [hl2]; omega
  · exact Nat.zero_le _
/-- a flood of program and model -/
theorem bothFl (n s y x : Int) (L : List Int) (D : Array Value) (hL : L.length ≤ 65) (hD : Wav s D) : ∃ k, (resFlood n s y x L D).length = k ∧ k ≤ 1048576 ∧ (∀ v w, Own 0 v L w → Calls Try.prog 14 #[.int .i64 n, v, .agg D, .int .i64 y, .int .i64 x] w (AnsI k (resFlood n s y x L D) (codeFl n s y x L D) w)) ∧ ∀ v w, Own 0 v L w → Calls Try.prog 16 #[.int .i64 n, v, .agg D, .int .i64 y, .int .i64 x] w (AnsI k (resFlood n s y x L D) (codeFl n s y x L D) w) :=
  ⟨_, rfl, resFlood_len n s y x L D, fun v w h => ((implFlood n s y x L D) (by omega) hD v w h).mono fun _ _ h => ansI_of rfl h, fun v w h => ((specFlood n s y x L D) (by omega) hD v w h).mono fun _ _ h => ansI_of rfl h⟩
/-- two heights: what they differ by -/
theorem bothWD (h k : Int) : ∃ d c : Int, ansWD h k = .tuple #[.int .i64 d, .int .i64 c] ∧ ((c = 0 ∧ -32 ≤ d ∧ d ≤ 31 ∧ IntKind.i64.wrap (k - h) = k - h ∧ IntKind.i64.wrap (k - h - d) = k - h - d ∧ (k - h - d).tmod 64 = 0) ∨ c ≠ 0) := by
  unfold ansWD
  split
  · rename_i hh
    simp only [Bool.and_eq_true] at hh
    have r1 := isH_range hh.1
    have r2 := isH_range hh.2
    have r3 := lessH_range h k
    have r4 := lessH_mod h k
    refine ⟨_, _, rfl, .inl ⟨rfl, r3.1, r3.2, IntWalk.i64_in _ (by omega), IntWalk.i64_in _ (by omega), ?_⟩⟩
    have e : (k - h - lessH h k) % 64 = 0 := by omega
    exact Int.tmod_eq_zero_of_dvd (Int.dvd_of_emod_eq_zero e)
  · exact ⟨_, _, rfl, .inr (by decide)⟩

end Go.Proofs.Ytjmfffgddmnkmac

namespace Go.Proofs.Ytjmfffgddmnkmac
open Go Go.RowKit

theorem small_mulP (u : Int) (x : Nat) (hu : -31 ≤ u ∧ u ≤ 31) (hx : x ≤ 7) : -217 ≤ u * (x : Int) ∧ u * (x : Int) ≤ 217 := by
  have e : x = 0 ∨ x = 1 ∨ x = 2 ∨ x = 3 ∨ x = 4 ∨ x = 5 ∨ x = 6 ∨ x = 7 := by omega
  rcases e with rfl | rfl | rfl | rfl | rfl | rfl | rfl | rfl <;> omega
theorem plH_small {m : Nat} {u v : Int} (h1 : 1 ≤ m) (h8 : m ≤ 8) (hu : -31 ≤ u ∧ u ≤ 31) (hv : -31 ≤ v ∧ v ≤ 31) {i : Nat} (hi : i < m * m) : i % m ≤ 7 ∧ i / m ≤ 7 ∧ -434 ≤ plH m u v i ∧ plH m u v i ≤ 434 := by
  have hx : i % m < m := Nat.mod_lt _ (by omega)
  have hy : i / m < m := Nat.div_lt_of_lt_mul hi
  have a := small_mulP u (i % m) hu (by omega)
  have b := small_mulP v (i / m) hv (by omega)
  unfold plH
  omega
theorem plane_map {m : Nat} {u v : Int} (h1 : 1 ≤ m) (h8 : m ≤ 8) (hs : side (m : Int) = true) (hu : -31 ≤ u ∧ u ≤ 31) (hv : -31 ≤ v ∧ v ≤ 31) : isMap (m : Int) (plL m u v (m * m)) = true := by
  have hl : (((plL m u v (m * m)).length : Nat) : Int) = (m : Int) * (m : Int) := by rw [plL_len, Int.natCast_mul]
  have ha : (plL m u v (m * m)).all isH = true := List.all_eq_true.2 fun x hx => by
    unfold plL at hx
    obtain ⟨i, hi, rfl⟩ := List.mem_map.1 hx
    have hi := List.mem_range.1 hi
    have h := plH_small h1 h8 hu hv hi
    unfold isH
    simp only [Bool.and_eq_true, decide_eq_true_eq]
    omega
  unfold isMap
  rw [hs, ha, decide_eq_true hl]; rfl
theorem wrap_map {m : Nat} {P : List Int} (h : isMap (m : Int) P = true) : codeW (m : Int) (P.map wrapH) = 0 := by
  have hs := isMap_side h
  have hl := isMap_len h
  have hw : (P.map wrapH).all isW = true := List.all_eq_true.2 fun x hx => by
    obtain ⟨i, hi, rfl⟩ := List.mem_map.1 hx
    have h := wrapH_range i
    unfold isW
    simp only [Bool.and_eq_true, decide_eq_true_eq]
    exact h
  have hh : (P.map wrapH).all isH = true := List.all_eq_true.2 fun x hx => by
    obtain ⟨i, hi, rfl⟩ := List.mem_map.1 hx
    have h := wrapH_range i
    unfold isH
    simp only [Bool.and_eq_true, decide_eq_true_eq]
    omega
  have hl2 : (((P.map wrapH).length : Nat) : Int) = (m : Int) * (m : Int) := by rw [List.length_map]; exact hl
  have hm : isMap (m : Int) (P.map wrapH) = true := by
    unfold isMap
    rw [hs, hh, decide_eq_true hl2]; rfl
  unfold codeW
  rw [hm, hw]; rfl
/-- what is told of a plane -/
theorem plane_all {m : Nat} {u v : Int} (h1 : 1 ≤ m) (h8 : m ≤ 8) (hs : side (m : Int) = true) (hu : -31 ≤ u ∧ u ≤ 31) (hv : -31 ≤ v ∧ v ≤ 31) :
    codeM (m : Int) (plL m u v (m * m)) = 0 ∧ resWh (m : Int) (plL m u v (m * m)) = (plL m u v (m * m)).map wrapH ∧ codeW (m : Int) ((plL m u v (m * m)).map wrapH) = 0 ∧
      resUr (m : Int) ((plL m u v (m * m)).map wrapH) = plL m u v (m * m) ∧ ∃ s t, resSl (m : Int) (plL m u v (m * m)) = [s, t] ∧ (m ≠ 1 → s = u ∧ t = v) := by
  have hp := plane_map h1 h8 hs hu hv
  have hw := wrap_map hp
  refine ⟨by unfold codeM; rw [hp]; rfl, by unfold resWh; rw [hp]; rfl, hw, ?_, ?_⟩
  · unfold resUr
    rw [if_pos hw, List.length_map, plL_len]
    exact plane_unw h1 hu hv (m * m) (m * m) (Nat.le_refl _)
  · refine ⟨_, _, by unfold resSl; rw [hp]; rfl, fun hm => ?_⟩
    rw [plL_len]
    exact plane_slopes u v (by omega) rfl
theorem implAns {n : Int} {L : List Int} (hL : L.length ≤ 65) (f : FuncId) (R : List Int) (c : Int) (h : Lists f n L R c) (k : Nat) (hk : R.length = k) : ∀ v w, Own 0 v L w → Calls Try.prog f #[.int .i64 n, v] w (AnsI k R c w) :=
  fun v w o => h.ans (by omega) v w o k hk

end Go.Proofs.Ytjmfffgddmnkmac

namespace Go.Proofs.Ytjmfffgddmnkmac
open Go Go.RowKit

/-- the flat wave of 1 -/
def flatD (m : Nat) : Array Value := pic m (gf (fun _ => (1065353216, 0)) (m * m))
theorem one_one : one 1065353216 0 = true := by decide +kernel
theorem mk_nul : mk 0 0 = true := by decide +kernel
theorem fin_one : (fin 1065353216 && fin 0) = true := by decide
theorem flatD_open {m i : Nat} (hm : m * m ≤ 64) (hi : i < m * m) : open_ (flatD m) i = true := by
  obtain ⟨h1, h2⟩ := gf_at m (fun _ => (1065353216, 0)) (m * m) i hm
  unfold open_ flatD
  rw [h1, h2, if_pos hi, if_pos hi]
  exact one_one
theorem flatD_wav (m : Nat) : Wav (m : Int) (flatD m) := gf_wav m _ _
theorem flatD_msk {m : Nat} (hs : side (m : Int) = true) (hm : m * m ≤ 64) : isMsk m (flatD m) = true := by
  have h1 : mks (flatD m) 64 = true := mks_of _ _ fun k hk => by
    obtain ⟨h1, h2⟩ := gf_at m (fun _ => (1065353216, 0)) (m * m) k hm
    unfold flatD
    rw [h1, h2]
    split
    · unfold mk; rw [one_one, Bool.or_true]
    · exact mk_nul
  unfold isMsk
  rw [h1, Bool.true_and]
  exact gf_isWav m hs _ (fun _ => fin_one)
theorem flat_ans {m : Nat} (hs : side (m : Int) = true) (w : World) : Calls Try.prog 13 #[.int .i64 m, .complex .f32 1065353216 0] w fun e w' => e = .returned (.tuple #[.agg (flatD m), .int .i64 0]) ∧ Below w.heap.size w w' := implFlat_yes m _ _ fin_one hs w

theorem map_of {m : Nat} {L P : List Int} (h : isMap (m : Int) L = true) (hl : P.length = L.length) (hb : ∀ i, -100000 ≤ P.getD i 0 ∧ P.getD i 0 ≤ 100000) : isMap (m : Int) P = true := by
  have hs := isMap_side h
  have hl2 := isMap_len h
  rw [← hl] at hl2
  have hh : P.all isH = true := List.all_eq_true.2 fun x hx => by
    obtain ⟨i, hi, rfl⟩ := List.mem_iff_getElem.1 hx
    have := hb i
    rw [List.getD_eq_getElem?_getD, List.getElem?_eq_getElem hi] at this
    unfold isH
    simp only [Bool.and_eq_true, decide_eq_true_eq]
    exact this
  unfold isMap
  rw [hs, hh, decide_eq_true hl2]; rfl
theorem resPre_get {m M : Nat} {L : List Int} {k y x : Nat} (hx : x < M) (hi : M * y + x < k) : (resPre m M L k).getD (M * y + x) 0 = resCell m L y x := by
  have h1 : (M * y + x) / M = y := by rw [Nat.mul_add_div (by omega), Nat.div_eq_of_lt hx]; omega
  have h2 : (M * y + x) % M = x := by rw [Nat.mul_add_mod, Nat.mod_eq_of_lt hx]
  unfold resPre
  rw [List.getD_eq_getElem?_getD, List.getElem?_map, List.getElem?_range hi]
  show resCell m L _ _ = _
  rw [h1, h2]
/-- a map is clean if no residue is another than 0 and no difference is half a turn -/
theorem clean_of {m N : Nat} {L : List Int} (h1 : ∀ i, i < (m - 1) * (m - 1) → (resPre m (m - 1) L ((m - 1) * (m - 1))).getD i 0 = 0)
    (h2 : ∀ i, i < N → (i % m + 1 < m → (L.getD (i + 1) 0 - L.getD i 0 - 32) % 64 ≠ 0) ∧ (i + m < N → (L.getD (i + m) 0 - L.getD i 0 - 32) % 64 ≠ 0)) : Clean m N L := by
  refine ⟨fun y x hy hx => ?_, fun i hi h => (h2 i hi).1 h, fun i h => (h2 i (by omega)).2 h⟩
  have hlt : (m - 1) * y + x < (m - 1) * (m - 1) := by
    have h := Nat.mul_le_mul_left (m - 1) (show y + 1 ≤ m - 1 by omega)
    rw [Nat.mul_succ] at h
    omega
  rw [← resPre_get (m := m) (M := m - 1) (L := L) (by omega) hlt]
  exact h1 _ hlt

/-- all that is asked where a map is unwrapped both ways -/
theorem both_ways {n : Int} {L : List Int} (h : codeW n L = 0) : ∃ m N : Nat, n = m ∧ m * m = N ∧ L.length = N ∧ 1 ≤ m ∧ m ≤ 8 ∧ N ≤ 64 ∧ side (m : Int) = true ∧ (∀ i, 0 ≤ L.getD i 0 ∧ L.getD i 0 ≤ 63) ∧
    resUr m L = unw m L N ∧ resRs m L = resPre m (m - 1) L ((m - 1) * (m - 1)) ∧ codeM m (unw m L N) = 0 ∧ resWh m (unw m L N) = L ∧
    ∃ F, codeFl m m 0 0 L (flatD m) = 0 ∧ resFlood m m 0 0 L (flatD m) = F ∧ F.length = N ∧ codeM m F = 0 ∧ resWh m F = L ∧ (Clean m N L → F = unw m L N) := by
  obtain ⟨hM, hW⟩ := codeW_zero h
  obtain ⟨m, rfl, h1, h8, hl⟩ := isMap_nat hM
  have h64 := map_le hM
  have hL := allW_get hW
  have hs := isMap_side hM
  have hR : isMap (m : Int) (unw m L L.length) = true := map_of hM (unw_len m L _) fun i => by
    have := unw_bound m L hL L.length i
    omega
  have hp : 0 < L.length := isMap_pos hM
  have hO : ∀ i, i < L.length → open_ (flatD m) i = true := fun i hi => flatD_open (by omega) (by omega)
  have hFl : (resFl m L.length 0 L (open_ (flatD m))).length = L.length := resFl_len hl.symm h64 hp (hL 0)
  have hF : isMap (m : Int) (resFl m L.length 0 L (open_ (flatD m))) = true := map_of hM hFl fun i => by
    have a := (fl_any (m := m) (O := open_ (flatD m)) hl.symm h64 hp (hL 0) 64).bd i
    have b := (fl_any (m := m) (O := open_ (flatD m)) hl.symm h64 hp (hL 0) 64).cnt
    unfold resFl
    omega
  have e0 : (m : Int).toNat * (0 : Int).toNat + (0 : Int).toNat = 0 := by simp
  have e1 : (m : Int).toNat = m := Int.toNat_natCast m
  have hmm : (decide ((m : Int) = m) && (inS (m : Int) 0 && inS (m : Int) 0)) = true := by
    have e : inS (m : Int) 0 = true := by unfold inS; simp; omega
    rw [e]; simp
  have hop : (L.all isW && open_ (flatD m) ((m : Int).toNat * (0 : Int).toNat + (0 : Int).toNat)) = true := by
    rw [hW, e0, hO 0 hp]; rfl
  have hmk := flatD_msk hs (show m * m ≤ 64 by omega)
  have hff := fun hc : Clean m L.length L => flood_rows hl.symm h1 h64 hL hO hc
  have hfm := flood_map hl.symm h1 h64 rfl hL hO
  obtain ⟨D, hD⟩ : ∃ D, flatD m = D := ⟨_, rfl⟩
  rw [hD] at hmk hff hfm hF hFl hop
  obtain ⟨c1, c2⟩ := codeFl_0 (n := m) (s := m) (y := 0) (x := 0) (L := L) (D := D) (by rw [hM, hmk]; rfl) hmm hop
  rw [e0, e1] at c2
  generalize resFl m L.length 0 L (open_ D) = F at *
  have g1 : resUr (m : Int) L = unw m L L.length := by unfold resUr; rw [if_pos h, e1]
  have g2 : resRs (m : Int) L = resPre m (m - 1) L ((m - 1) * (m - 1)) := by unfold resRs; rw [if_pos h, e1]
  have g3 : codeM (m : Int) (unw m L L.length) = 0 := by unfold codeM; rw [hR]; rfl
  have g4 : resWh (m : Int) (unw m L L.length) = L := by unfold resWh; rw [hR]; exact rows_wrap m L h1 hL
  have g5 : codeM (m : Int) F = 0 := by unfold codeM; rw [hF]; rfl
  have g6 : resWh (m : Int) F = L := by unfold resWh; rw [hF]; exact hfm
  rw [← hD] at c1 c2
  exact ⟨m, L.length, rfl, hl.symm, rfl, h1, h8, h64, hs, hL, g1, g2, g3, g4, F, c1, c2, hFl, g5, g6, hff⟩

end Go.Proofs.Ytjmfffgddmnkmac
