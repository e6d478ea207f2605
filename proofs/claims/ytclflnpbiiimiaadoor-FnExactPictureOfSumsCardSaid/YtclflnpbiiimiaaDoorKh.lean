/- The model's sums by codes back, whole: the list and the code. Condition: as many numbers as a law lets in. -/
import Derived.Test.YtclflnpbiiimiaaDoorKg
namespace Go.Proofs.YtclflnpbiiimiaaDoor
open Go Go.RowKit Ieee

/-- the first k numbers by f -/
def bpre (M : List Nat) (f : Nat → Nat) (k : Nat) : List Nat := (M.take k).map f ++ M.drop k
theorem bpre_len (M : List Nat) (f : Nat → Nat) (k : Nat) (h : k ≤ M.length) : (bpre M f k).length = M.length := by
  unfold bpre; rw [List.length_append, List.length_map, List.length_take, List.length_drop]; omega
theorem bpre_zero (M : List Nat) (f : Nat → Nat) : bpre M f 0 = M := by simp [bpre]
theorem bpre_all (M : List Nat) (f : Nat → Nat) : bpre M f M.length = M.map f := by simp [bpre]
theorem bpre_old (M : List Nat) (f : Nat → Nat) (k : Nat) (h : k < M.length) : (bpre M f k).getD k 0 = M.getD k 0 := by
  unfold bpre
  rw [List.getD_eq_getElem?_getD, List.getElem?_append_right (by rw [List.length_map, List.length_take]; omega), List.length_map, List.length_take, Nat.min_eq_left (by omega), Nat.sub_self, List.getElem?_drop, Nat.add_zero, ← List.getD_eq_getElem?_getD]
theorem bpre_set (M : List Nat) (f : Nat → Nat) (k : Nat) (h : k < M.length) : (bpre M f k).set k (f (M.getD k 0)) = bpre M f (k + 1) := by
  unfold bpre
  have hl : ((M.take k).map f).length = k := by rw [List.length_map, List.length_take]; omega
  rw [List.set_append_right _ _ (by omega), hl, Nat.sub_self, List.drop_eq_getElem_cons h, List.set_cons_zero, take_succ_getDF M k h, List.map_append, List.append_assoc]
  rfl

set_option maxRecDepth 100000 in
set_option maxHeartbeats 1600000 in
theorem l10Back_any (ad : Option Addr) (n cap : Nat) (L : List Nat) (w : World) (h : CameF ad n L w) (hn : lenI (n : Int) = true) (hf : L.all fin = true) :
    Calls Tryd.prog 49 #[.slice ad n cap] w fun e w' => ∃ r, e = .returned (.tuple #[r, .int .i64 (sbCode L)]) ∧ OwnF w.heap.size r (bkList L) w' ∧ Below w.heap.size w w' := by
  have HT := Lib.hid (told_any ad n cap L w h hn hf)
  have hl := h.1
  have hn64 : 1 ≤ n ∧ n ≤ 64 := by rcases lenI_yes hn with e | e | e | e | e | e | e <;> omega
  cases ho : okRnd L (lg L.length)
  · obtain ⟨e1, e2, e3⟩ := sb_lim hf (by rw [hl]; exact hn) ho
    rw [e3]
    rw [e1, e2] at HT
    rw [e1]
    clear h hn hf hl ho e1 e2 e3
    go_enter Tryd.func49, Tryd.ntmps49
    go_wp2_with fail
    refine HT.out.mono ?_
    rintro e w2 ⟨v, r, c, rfl, rfl, B2, hcall⟩
    have HCALL := Lib.hid hcall
    clear hcall B2
    go_wp2_with fail
    refine HCALL.out.mono ?_
    rintro e w3 ⟨rfl, O3, B3⟩
    have BB := Lib.hid B3
    obtain ⟨ad, cp, e0, _⟩ := O3.came
    subst e0
    clear O3 B3
    go_wp2_with fail
    go_ret2
    exact ⟨_, rfl, OwnF.zero _ _, BB.out⟩
  · obtain ⟨e1, e2, e3⟩ := sb_yes hf (by rw [hl]; exact hn) ho
    rw [e3]
    rw [e1, e2] at HT
    rw [e1]
    have HMF := Lib.hid (okRnd_last ho)
    have hml : (rnds L (lg L.length)).length = n := by rw [rnds_len, hl]
    rw [hl] at HT HMF hml ⊢
    have HDV := Lib.hid (fun x hx => divS_some x n hx hn)
    generalize rnds L (lg n) = M at *
    have HML := Lib.hid hml
    clear h hn hf hl ho e1 e2 e3 hml
    go_enter Tryd.func49, Tryd.ntmps49
    go_wp2_with fail
    refine HT.out.mono ?_
    rintro e w2 ⟨v, r, c, rfl, rfl, B2, hcall⟩
    have HCALL := Lib.hid hcall
    clear hcall B2
    go_wp2_with fail
    refine HCALL.out.mono ?_
    rintro e w3 ⟨rfl, O3, B3⟩
    have BB := Lib.hid B3
    obtain ⟨g, cp, rfl, hg, _⟩ := O3.form (by rw [HML.out]; omega)
    have OO : Hid (OwnF w.heap.size (.slice (some ⟨g, 0, none⟩) M.length cp) (bpre M (fun x => divS x (fl32 n)) 0) w3) := Lib.hid (by rw [bpre_zero]; exact O3)
    rw [HML.out] at OO ⊢
    have HG := Lib.hid hg
    clear O3 B3 hg HT HCALL
    go_wp2_with fail
    go_loopw [6] (fun i wr => ∃ k : Nat, k ≤ n ∧ i = .int .i64 k ∧ Hid (OwnF w.heap.size (.slice (some ⟨g, 0, none⟩) n cp) (bpre M (fun x => divS x (fl32 n)) k) wr) ∧ Hid (Below w.heap.size w wr)) (fun i _ => n - (intOf i).toNat)
    case atStart => exact ⟨0, by omega, rfl, OO, BB⟩
    case round =>
      clear OO BB
      obtain ⟨k, hk, rfl, O, B⟩ := hrel
      by_cases hlt : k < n
      · have hdk : decide ((k : Int) < (n : Int)) = true := by simp; omega
        have hkM : k < M.length := by rw [HML.out]; exact hlt
        have hbl := bpre_len M (fun x => divS x (fl32 n)) k (by omega)
        rw [HML.out] at hbl
        have o3 : OwnF w.heap.size (.slice (some ⟨g, 0, none⟩) (bpre M (fun x => divS x (fl32 n)) k).length cp) (bpre M (fun x => divS x (fl32 n)) k) wr := by rw [hbl]; exact O.out
        have c1 := o3.cell k (by omega)
        have f1 := o3.free k
        rw [bpre_old M _ k hkM] at c1
        have hd := HDV.out (M.getD k 0) (all_at HMF.out k hkM)
        have O5 := o3.stored k (divS (M.getD k 0) (fl32 n))
        rw [bpre_set M (fun x => divS x (fl32 n)) k hkM, hbl] at O5
        have OO := Lib.hid O5
        have BB : Hid (Below w.heap.size w (wr.setCell ⟨g, k, none⟩ (.float .f32 (divS (M.getD k 0) (fl32 n))))) := Lib.hid (B.out.setCell (p := ⟨g, k, none⟩) HG.out _)
        generalize M.getD k 0 = x at *
        have h1 := fun w => run_float_arith (P := Tryd.prog) w .quo 38 .f32 x (fl32 n) (divS x (fl32 n)) hd
        generalize hZ : divS x (fl32 n) = z at *
        have h2 : ∀ w, (binOp .quo 38 (.float .f32 x) (.float .f32 (floatOfInt .f32 (n : Int)))).run Tryd.prog w = .ok (.float .f32 z) w := h1
        clear o3 O5 hd hkM hbl h1 hZ
        go_wp2_with fail
        exact ⟨⟨k + 1, by omega, by go_num, OO, BB⟩, by simp [intOf]; omega⟩
      · obtain rfl : k = n := by omega
        have O3 : Hid (OwnF w.heap.size (.slice (some ⟨g, 0, none⟩) k cp) (M.map (fun x => divS x (fl32 k))) wr) := Lib.hid (by
          have := O.out
          rw [← HML.out, bpre_all, HML.out] at this
          exact this)
        go_wp2_with fail
        go_ret2
        exact ⟨_, rfl, O3.out, B.out⟩

set_option maxRecDepth 100000 in
set_option maxHeartbeats 800000 in
theorem specBk (L : List Nat) : ListsF 15 L (bkList L) (sbCode L) := by
  intro hn v w hO
  obtain ⟨a, cap, rfl, hC⟩ := hO.came
  have HC := Lib.hid hC
  have HN := Lib.hid hn
  clear hO hC
  cases hf : L.all fin
  · have HF : Hid (Calls Tryd.prog 46 #[.slice a L.length cap] w fun e w' => e = .returned (.bool false) ∧ ∃ d, w' = w.drewN d) := Lib.hid (by rw [← hf]; exact l10Fine_any a L.length cap L w HC.out HN.out)
    rw [(sb_nan hf).1, (sb_nan hf).2.2]
    clear hf HC HN hn
    generalize L.length = n at *
    go_enter Tryd.func15, Tryd.ntmps15
    go_wp2_with fail
    refine HF.out.mono ?_
    rintro e w1 ⟨rfl, d, rfl⟩
    go_wp2_with fail
    go_ret2
    exact ⟨_, rfl, OwnF.zero _ _, below_drewN (Below.refl _ _) d⟩
  · have HF : Hid (Calls Tryd.prog 46 #[.slice a L.length cap] w fun e w' => e = .returned (.bool true) ∧ ∃ d, w' = w.drewN d) := Lib.hid (by rw [← hf]; exact l10Fine_any a L.length cap L w HC.out HN.out)
    cases hl : lenI (L.length : Int)
    · have HL : Hid (∀ u, Calls Tryd.prog 39 #[.int .i64 (L.length : Int)] u fun e w' => e = .returned (.bool false) ∧ u = w') := Lib.hid (fun u => by rw [← hl]; exact l10Length_any _ u)
      rw [(sb_len hf hl).1, (sb_len hf hl).2.2]
      clear hf hl HC HN hn
      generalize L.length = n at *
      go_enter Tryd.func15, Tryd.ntmps15
      go_wp2_with fail
      refine HF.out.mono ?_
      rintro e w1 ⟨rfl, d, rfl⟩
      go_wp2_with fail
      refine (HL.out _).mono ?_
      rintro e w1 ⟨rfl, rfl⟩
      go_wp2_with fail
      go_ret2
      exact ⟨_, rfl, OwnF.zero _ _, below_drewN (Below.refl _ _) d⟩
    · have HL : Hid (∀ u, Calls Tryd.prog 39 #[.int .i64 (L.length : Int)] u fun e w' => e = .returned (.bool true) ∧ u = w') := Lib.hid (fun u => by rw [← hl]; exact l10Length_any _ u)
      have HT := Lib.hid (fun u hu => l10Back_any a L.length cap L u hu hl hf)
      clear hf hl HN hn
      generalize L.length = n at *
      generalize sbCode L = sc at *
      go_enter Tryd.func15, Tryd.ntmps15
      go_wp2_with fail
      refine HF.out.mono ?_
      rintro e w1 ⟨rfl, d, rfl⟩
      have HC1 : Hid (CameF a n L (w.drewN d)) := Lib.hid (HC.out.below (below_drewN (Below.refl _ _) d) (Nat.le_refl _))
      have B1 : Hid (Below w.heap.size w (w.drewN d)) := Lib.hid (below_drewN (Below.refl _ _) d)
      generalize w.drewN d = w1 at *
      go_wp2_with fail
      refine (HL.out _).mono ?_
      rintro e w2 ⟨rfl, rfl⟩
      go_wp2_with fail
      refine (HT.out _ HC1.out).mono ?_
      rintro e w2 ⟨r, rfl, O3, B3⟩
      have OO := Lib.hid O3
      have BB : Hid (Below w.heap.size w w2) := Lib.hid (B1.out.trans (B3.mono B1.out.size))
      obtain ⟨ad, cp, e0, _⟩ := O3.came
      subst e0
      clear O3 B3
      go_wp2_with fail
      go_ret2
      exact ⟨_, rfl, OO.out.mono B1.out.size, BB.out⟩

end Go.Proofs.YtclflnpbiiimiaaDoor
