/- Unions, intersections and complements of masks, and what is behind a mask: program and model answer alike. Condition: 64 complex numbers each. -/
import Derived.Test.YtjmfffgddmnkmabUn
import Derived.Test.YtjmfffgddmnkmabSo
import Derived.Test.YtjmfffgddmnkmabIK
import Derived.Test.YtjmfffgddmnkmabIAnd
import Derived.Test.YtjmfffgddmnkmabIOr
import Derived.Test.YtjmfffgddmnkmabAd
import Derived.Test.YtjmfffgddmnkmabM35
namespace Go.Proofs.Ytjmfffgddmnkmab
open Go Go.RowKit

theorem finW_none : FinW 0 (pic 0 zc) := finW_of 0 zc (by rw [← fill_zero (fun _ => 0)]; exact fill_cells _ (fun _ => by omega) 0)
theorem isMsk_parts (s : Int) (D : Array Value) (h : isMsk s D = true) : mks D 64 = true ∧ isWav s D = true ∧ side s = true := by
  unfold isMsk at h
  rw [Bool.and_eq_true] at h
  refine ⟨h.1, h.2, ?_⟩
  have h2 := h.2
  unfold isWav at h2
  rw [Bool.and_eq_true] at h2
  exact h2.1
theorem two_zero (s t : Int) (D E : Array Value) (h : twoCode s t D E = 0) : isMsk s D = true ∧ isMsk t E = true ∧ s = t := by
  unfold twoCode at h
  cases h1 : isMsk s D
  · rw [h1, if_pos (.inl rfl)] at h; omega
  · cases h2 : isMsk t E
    · rw [h2, if_pos (.inr rfl)] at h; omega
    · refine ⟨rfl, rfl, ?_⟩
      rw [h1, h2, if_neg (by simp)] at h
      by_cases e : s = t
      · exact e
      · rw [if_pos e] at h; omega
theorem far_nul (s : Nat) (D : Array Value) (h : isWav s D = true) (k : Nat) (hk : k < 64) (hs : s * s ≤ k) : nul (reAt D k) (imAt D k) = true := by
  unfold isWav at h
  rw [Bool.and_eq_true] at h
  exact okWavs_nul _ _ _ h.2 k hk (by rw [← Int.natCast_mul]; show s * s ≤ k; omega)
theorem mk_open (D : Array Value) (h : mks D 64 = true) (k : Nat) (hk : k < 64) : nul (reAt D k) (imAt D k) = !open_ D k := nul_one _ _ (mks_at D 64 h k hk)
theorem mark_nul (b : Bool) : nul (mark b).1 (mark b).2 = !b := by cases b <;> decide
theorem mark_one (b : Bool) : one (mark b).1 (mark b).2 = b := by cases b <;> decide
theorem mark_mk (b : Bool) : mk (mark b).1 (mark b).2 = true := by cases b <;> decide
theorem gf_cell (s : Int) (F : Nat → Nat × Nat) (N k : Nat) (hk : k < 64) : (pic s (gf F N))[1 + k]? = if k < N then some (.complex .f32 (F k).1 (F k).2) else some (.complex .f32 0 0) := by
  rw [Nat.add_comm, pic_succ, gf_get, if_pos hk]
  by_cases h : k < N
  · rw [if_pos h, if_pos h]
  · rw [if_neg h, if_neg h]

/-- the cells of the model's union are those of the program's -/
theorem uni_eq (s : Nat) (hs : side s = true) (D E : Array Value) (hD : Wav s D) (hE : Wav s E) (h1 : isMsk s D = true) (h2 : isMsk s E = true) :
    mks (bhd (cpl D (s * s)) (cpl E (s * s)) 64) 64 = true ∧ uni s D E = pic s (gf (joinUnionOf D E) (s * s)) := by
  obtain ⟨m1, w1, _⟩ := isMsk_parts s D h1
  obtain ⟨m2, w2, _⟩ := isMsk_parts s E h2
  have hsq := sq_le s hs
  have wD := cpl_wav s D hD (s * s)
  have wE := cpl_wav s E hE (s * s)
  have hB : ∀ k, k < 64 → (bhd (cpl D (s * s)) (cpl E (s * s)) 64)[1 + k]? = some (.complex .f32 (if k < s * s then mark (!open_ D k && !open_ E k) else (0, 0)).1 (if k < s * s then mark (!open_ D k && !open_ E k) else (0, 0)).2) := by
    intro k hk
    have gE := cpl_get s E hE k hk (s * s)
    have gD := cpl_get s D hD k hk (s * s)
    rw [bhd_get s (cpl D (s * s)) (cpl E (s * s)) wD k hk 64]
    by_cases h : k < s * s
    · rw [if_pos h] at gE gD
      obtain ⟨a1, a2⟩ := at_of _ _ _ _ gE
      rw [a1, a2, mark_nul, Bool.not_not, if_pos h, gD]
      cases open_ E k
      · rw [if_neg (by simp), Bool.not_false, Bool.and_true]
      · rw [if_pos ⟨hk, rfl⟩, Bool.not_true, Bool.and_false]; rfl
    · rw [if_neg h] at gE gD
      have hn := far_nul s E w2 k hk (by omega)
      have e1 : reAt (cpl E (s * s)) k = reAt E k ∧ imAt (cpl E (s * s)) k = imAt E k := by
        obtain ⟨x, y, hx⟩ := hE.2.2 k hk
        obtain ⟨b1, b2⟩ := at_of E k x y hx
        rw [hx] at gE
        obtain ⟨b3, b4⟩ := at_of _ k x y gE
        exact ⟨b3.trans b1.symm, b4.trans b2.symm⟩
      rw [e1.1, e1.2, if_pos ⟨hk, hn⟩, if_neg h]
  have wB := bhd_wav s (cpl D (s * s)) (cpl E (s * s)) wD 64
  refine ⟨mks_of _ _ fun k hk => ?_, ?_⟩
  · obtain ⟨a1, a2⟩ := at_of _ _ _ _ (hB k hk)
    rw [a1, a2]
    by_cases h : k < s * s
    · rw [if_pos h]; exact mark_mk _
    · rw [if_neg h]; decide
  · unfold uni
    refine wav_ext s _ _ (cpl_wav s _ wB (s * s)) (gf_wav s _ _) fun k hk => ?_
    rw [cpl_get s _ wB k hk (s * s), gf_cell s _ _ k hk]
    by_cases h : k < s * s
    · rw [if_pos h, if_pos h]
      obtain ⟨a1, a2⟩ := at_of _ _ _ _ (hB k hk)
      have ho : open_ (bhd (cpl D (s * s)) (cpl E (s * s)) 64) k = (!open_ D k && !open_ E k) := by
        unfold open_ at *
        rw [a1, a2, if_pos h]; exact mark_one _
      rw [ho]
      unfold joinUnionOf
      cases open_ D k <;> cases open_ E k <;> rfl
    · rw [if_neg h, if_neg h, hB k hk, if_neg h]

theorem bothUnion (s t : Int) (D E : Array Value) (hD : Wav s D) (hE : Wav t E) : ∃ (u : Int) (A B : Array Value), FinW u A ∧ Wav u B ∧
    (∀ w, Calls Try.prog 15 #[.agg D, .agg E] w fun e w' => e = .returned (.tuple #[.agg A, .int .i64 (twoCode s t D E)]) ∧ Below w.heap.size w w') ∧ (∀ w, Calls Try.prog 16 #[.agg D, .agg E] w fun e w' => e = .returned (.tuple #[.agg B, .int .i64 (twoCode s t D E)]) ∧ Below w.heap.size w w') ∧
    (∀ w, (binOp .neq 30 (.agg A) (.agg B)).run Try.prog w = .ok (.bool false) w) ∧ (twoCode s t D E = 0 → A = pic s (gf (joinUnionOf D E) (s.toNat * s.toNat))) := by
  have hi := implUnionOf_any s t D E hD hE
  by_cases hc : twoCode s t D E = 0
  · obtain ⟨h1, h2, rfl⟩ := two_zero s t D E hc
    obtain ⟨m1, w1, hs⟩ := isMsk_parts s D h1
    obtain ⟨m2, w2, _⟩ := isMsk_parts s E h2
    obtain ⟨n, rfl⟩ : ∃ n : Nat, s = n := ⟨s.toNat, by rcases side_yes s hs with e | e | e | e <;> omega⟩
    obtain ⟨m3, hu⟩ := uni_eq n hs D E hD hE h1 h2
    have ha : ansUnionOf n n D E = ((n : Int), gf (joinUnionOf D E) (n * n), (0 : Int)) := by
      unfold ansUnionOf
      rw [if_neg (by rw [h1, h2]; simp), if_neg (by simp), Int.toNat_natCast]
    have hsp := specUnionOf_yes n hs D E hD hE hc m1 m2 m3
    rw [ha] at hi
    rw [hu] at hsp
    rw [hc]
    have hf := gf_fin n (joinUnionOf D E) (joinUnionOf_fin D E) (n * n)
    exact ⟨n, _, _, hf, finW_wav hf, hi, hsp, neq_self n _ hf, fun _ => by rw [Int.toNat_natCast]⟩
  · have ha : ansUnionOf s t D E = ((0 : Int), zc, twoCode s t D E) := by
      unfold ansUnionOf twoCode at *
      by_cases h1 : isMsk s D = false ∨ isMsk t E = false
      · rw [if_pos h1, if_pos h1]
      · rw [if_neg h1] at hc ⊢
        rw [if_neg h1]
        by_cases h2 : s ≠ t
        · rw [if_pos h2, if_pos h2]
        · rw [if_neg h2] at hc; omega
    rw [ha] at hi
    exact ⟨0, _, _, finW_none, finW_wav finW_none, hi, specUnionOf_no s t D E hD hE hc, neq_self 0 _ finW_none, fun h => absurd h hc⟩

theorem bothInter (s t : Int) (D E : Array Value) (hD : Wav s D) (hE : Wav t E) : ∃ (u : Int) (A B : Array Value), FinW u A ∧ Wav u B ∧
    (∀ w, Calls Try.prog 17 #[.agg D, .agg E] w fun e w' => e = .returned (.tuple #[.agg A, .int .i64 (twoCode s t D E)]) ∧ Below w.heap.size w w') ∧ (∀ w, Calls Try.prog 18 #[.agg D, .agg E] w fun e w' => e = .returned (.tuple #[.agg B, .int .i64 (twoCode s t D E)]) ∧ Below w.heap.size w w') ∧
    (∀ w, (binOp .neq 30 (.agg A) (.agg B)).run Try.prog w = .ok (.bool false) w) ∧ (twoCode s t D E = 0 → A = pic s (gf (joinIntersectionOf D E) (s.toNat * s.toNat))) := by
  have hi := implIntersectionOf_any s t D E hD hE
  by_cases hc : twoCode s t D E = 0
  · obtain ⟨h1, h2, rfl⟩ := two_zero s t D E hc
    obtain ⟨m1, w1, hs⟩ := isMsk_parts s D h1
    obtain ⟨m2, w2, _⟩ := isMsk_parts s E h2
    obtain ⟨n, rfl⟩ : ∃ n : Nat, s = n := ⟨s.toNat, by rcases side_yes s hs with e | e | e | e <;> omega⟩
    have ha : ansIntersectionOf n n D E = ((n : Int), gf (joinIntersectionOf D E) (n * n), (0 : Int)) := by
      unfold ansIntersectionOf
      rw [if_neg (by rw [h1, h2]; simp), if_neg (by simp), Int.toNat_natCast]
    rw [ha] at hi
    have hsp := specIntersectionOf_yes n n D E hD hE hc
    rw [hc]
    have hf := gf_fin n (joinIntersectionOf D E) (joinIntersectionOf_fin D E) (n * n)
    have wB := bhd_wav n D E hD 64
    refine ⟨n, _, _, hf, wB, hi, hsp, fun w => ?_, fun _ => by rw [Int.toNat_natCast]⟩
    rw [run_neqW n _ _ (finW_wav hf) wB (fun _ => true) (fun k hk => by
      obtain ⟨x, y, hx⟩ := hD.2.2 k hk
      obtain ⟨e1, e2⟩ := at_of D k x y hx
      rw [gf_cell n _ _ k hk, bhd_get n D E hD k hk 64]
      by_cases h : k < n * n
      · rw [if_pos h]
        have hnE := mk_open E m2 k hk
        have hnD := mk_open D m1 k hk
        unfold joinIntersectionOf
        cases hoE : open_ E k
        · rw [hoE] at hnE
          rw [if_pos ⟨hk, hnE⟩, Bool.and_false]
          exact ⟨_, _, _, _, rfl, rfl, by decide⟩
        · rw [hoE] at hnE
          rw [if_neg (by rw [hnE]; simp), Bool.and_true, hx]
          refine ⟨_, _, _, _, rfl, rfl, ?_⟩
          cases hoD : open_ D k
          · rw [hoD, e1, e2] at hnD
            have hn : nul x y = true := hnD
            unfold nul at hn
            rw [Bool.and_eq_true] at hn
            show (Op.floatEq .f32 0 x && Op.floatEq .f32 0 y) = true
            rw [feq_symm _ _ hn.1, feq_symm _ _ hn.2]; rfl
          · unfold open_ at hoD
            rw [e1, e2] at hoD
            unfold one at hoD
            rw [Bool.and_eq_true] at hoD
            show (Op.floatEq .f32 1065353216 x && Op.floatEq .f32 0 y) = true
            rw [feq_symm _ _ hoD.1, feq_symm _ _ hoD.2]; rfl
      · rw [if_neg h, if_pos ⟨hk, far_nul n E w2 k hk (by omega)⟩]
        exact ⟨_, _, _, _, rfl, rfl, by decide⟩) w]
    simp
  · have ha : ansIntersectionOf s t D E = ((0 : Int), zc, twoCode s t D E) := by
      unfold ansIntersectionOf twoCode at *
      by_cases h1 : isMsk s D = false ∨ isMsk t E = false
      · rw [if_pos h1, if_pos h1]
      · rw [if_neg h1] at hc ⊢
        rw [if_neg h1]
        by_cases h2 : s ≠ t
        · rw [if_pos h2, if_pos h2]
        · rw [if_neg h2] at hc; omega
    rw [ha] at hi
    exact ⟨0, _, _, finW_none, finW_wav finW_none, hi, specIntersectionOf_no s t D E hD hE hc, neq_self 0 _ finW_none, fun h => absurd h hc⟩

theorem bothComp (s : Int) (D : Array Value) (hD : Wav s D) : ∃ (u : Int) (A B : Array Value) (c : Int), FinW u A ∧ Wav u B ∧
    (∀ w, Calls Try.prog 22 #[.agg D] w fun e w' => e = .returned (.tuple #[.agg A, .int .i64 c]) ∧ Below w.heap.size w w') ∧ (∀ w, Calls Try.prog 29 #[.agg D] w fun e w' => e = .returned (.tuple #[.agg B, .int .i64 c]) ∧ Below w.heap.size w w') ∧
    (∀ w, (binOp .eql 30 (.agg A) (.agg B)).run Try.prog w = .ok (.bool true) w) ∧ (isMsk s D = true → c = 0 ∧ A = pic s (gf (fun i => mark (!open_ D i)) (s.toNat * s.toNat))) := by
  cases h1 : isMsk s D
  · exact ⟨0, _, _, 1, finW_none, finW_wav finW_none, implComplementOf_no s D hD h1, specComplementOf_no s D hD h1, eql_self 0 _ finW_none, fun h => by cases h⟩
  · obtain ⟨m1, w1, hs⟩ := isMsk_parts s D h1
    obtain ⟨n, rfl⟩ : ∃ n : Nat, s = n := ⟨s.toNat, by rcases side_yes s hs with e | e | e | e <;> omega⟩
    have hf := gf_fin n (fun i => mark (!open_ D i)) (fun i => mark_fin _) (n * n)
    have wB := cpl_wav n D hD (n * n)
    refine ⟨n, _, _, 0, hf, wB, implComplementOf_yes n hs D hD h1, specComplementOf_yes n hs D hD h1, fun w => ?_, fun _ => ⟨rfl, by rw [Int.toNat_natCast]⟩⟩
    rw [run_eqlW n _ _ (finW_wav hf) wB (fun _ => true) (fun k hk => by
      obtain ⟨x, y, hx⟩ := hD.2.2 k hk
      obtain ⟨e1, e2⟩ := at_of D k x y hx
      rw [gf_cell n _ _ k hk, cpl_get n D hD k hk]
      by_cases h : k < n * n
      · rw [if_pos h, if_pos h]
        refine ⟨_, _, _, _, rfl, rfl, ?_⟩
        cases open_ D k <;> decide
      · rw [if_neg h, if_neg h, hx]
        refine ⟨_, _, _, _, rfl, rfl, ?_⟩
        have hn := far_nul n D w1 k hk (by omega)
        rw [e1, e2] at hn
        unfold nul at hn
        rw [Bool.and_eq_true] at hn
        rw [feq_symm _ _ hn.1, feq_symm _ _ hn.2]; rfl) w]
    simp

/-- the code of a wave and a mask -/
def behCode (s t : Int) (D E : Array Value) : Int := if isWav s D = false ∨ isMsk t E = false then 1 else if s ≠ t then 2 else 0
theorem bothBehind (s t : Int) (D E : Array Value) (hD : Wav s D) (hE : Wav t E) : ∃ (u : Int) (A : Array Value), FinW u A ∧
    (∀ w, Calls Try.prog 25 #[.agg D, .agg E] w fun e w' => e = .returned (.tuple #[.agg A, .int .i64 (behCode s t D E)]) ∧ Below w.heap.size w w') ∧ (∀ w, Calls Try.prog 26 #[.agg D, .agg E] w fun e w' => e = .returned (.tuple #[.agg A, .int .i64 (behCode s t D E)]) ∧ Below w.heap.size w w') ∧
    (behCode s t D E = 0 → isWav s D = true ∧ isMsk t E = true ∧ s = t ∧ A = pic s (gf (behF D E) (s.toNat * s.toNat))) := by
  unfold behCode
  cases h1 : isWav s D
  · rw [if_pos (.inl rfl)]
    exact ⟨0, _, finW_none, implBehindMask_no0 s t D E hD hE h1, specBehindMask_no0 s t D E hD hE h1, fun h => by omega⟩
  · cases h2 : isMsk t E
    · rw [if_pos (.inr rfl)]
      exact ⟨0, _, finW_none, implBehindMask_no1 s t D E hD hE h1 h2, specBehindMask_no1 s t D E hD hE h1 h2, fun h => by omega⟩
    · rw [if_neg (by simp)]
      by_cases hst : s = t
      · subst hst
        rw [if_neg (by simp)]
        obtain ⟨m2, w2, hs⟩ := isMsk_parts s E h2
        obtain ⟨n, rfl⟩ : ∃ n : Nat, s = n := ⟨s.toNat, by rcases side_yes s hs with e | e | e | e <;> omega⟩
        have hf := gf_fin n (behF D E) (behF_fin n D E hD h1) (n * n)
        have he : bhd D E 64 = pic n (gf (behF D E) (n * n)) := by
          refine wav_ext n _ _ (bhd_wav n D E hD 64) (gf_wav n _ _) fun k hk => ?_
          obtain ⟨x, y, hx⟩ := hD.2.2 k hk
          obtain ⟨e1, e2⟩ := at_of D k x y hx
          rw [bhd_get n D E hD k hk 64, gf_cell n _ _ k hk]
          by_cases h : k < n * n
          · rw [if_pos h]
            have hnE := mk_open E m2 k hk
            unfold behF
            cases hoE : open_ E k
            · rw [hoE] at hnE
              rw [if_pos ⟨hk, hnE⟩, if_neg (by simp)]
            · rw [hoE] at hnE
              rw [if_neg (by rw [hnE]; simp), if_pos rfl, hx, e1, e2]
          · rw [if_neg h, if_pos ⟨hk, far_nul n E w2 k hk (by omega)⟩]
        have hsp := specBehindMask_yes n n D E hD hE h1 h2 rfl
        rw [he] at hsp
        exact ⟨n, _, hf, implBehindMask_yes n hs D E hD hE h1 h2, hsp, fun _ => ⟨rfl, rfl, rfl, by rw [Int.toNat_natCast]⟩⟩
      · rw [if_pos hst]
        exact ⟨0, _, finW_none, implBehindMask_no2 s t D E hD hE h1 h2 hst, specBehindMask_no2 s t D E hD hE h1 h2 hst, fun h => by omega⟩
end Go.Proofs.Ytjmfffgddmnkmab
