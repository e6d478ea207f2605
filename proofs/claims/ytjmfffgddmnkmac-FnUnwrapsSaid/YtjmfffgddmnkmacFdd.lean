/- The program's flood runs till its queue is empty. Condition: a flood in memory. -/
import Derived.Test.YtjmfffgddmnkmacFdc
import Derived.ScopeJumps
import Derived.WalkMore
namespace Go.Proofs.Ytjmfffgddmnkmac
open Go Go.RowKit
attribute [local go_sem ↓] Go.wp_at_zero Go.wp_at_succ

theorem hop_cnt (m : Nat) (L : List Int) (a i : Nat) (s : FS) : cntT (hop m L a s i).U + (hop m L a s i).Q.length = cntT s.U + s.Q.length := by
  unfold hop
  split
  · rename_i h
    simp only [Bool.and_eq_true] at h
    have := cntT_set s.U _ h.2
    rw [List.length_append, List.length_singleton]
    show cntT (s.U.set _ false) + _ = _
    omega
  · rfl
theorem hops_cnt (m : Nat) (L : List Int) (a : Nat) (s : FS) : ∀ i, cntT (hops m L a s i).U + (hops m L a s i).Q.length = cntT s.U + s.Q.length
  | 0 => rfl
  | i + 1 => (hop_cnt m L a i _).trans (hops_cnt m L a s i)
theorem flo_cnt (m : Nat) (L : List Int) (s : FS) : ∀ k, cntT (flo m L s k).U + (flo m L s k).Q.length = cntT s.U + s.Q.length
  | 0 => rfl
  | k + 1 => by
    rw [flo_succ]
    split
    · exact (hops_cnt m L _ _ 4).trans (flo_cnt m L s k)
    · exact flo_cnt m L s k

theorem flo_len (m : Nat) (L : List Int) (s : FS) (k : Nat) : (flo m L s k).Q.length ≤ (flo m L s (k + 1)).Q.length := by
  rw [flo_succ]
  split
  · exact hops_len m L _ _ 4
  · exact Nat.le_refl _
theorem flm_pop {B p b g m N cap d qg off n c off' n' c' : Nat} {s : FS} {cs : Array Value} {W : World} (h0 : W.heap[p]? = some (.cells cs 78 (0, 0)))
    (h1 : cs.size = 68 ∧ cs[0]? = some (.slice (some ⟨b, 0, none⟩) N cap) ∧ cs[1]? = some (.slice (some ⟨g, 0, none⟩) N N) ∧ cs[2]? = some (.int .i64 m) ∧ (∀ i, i < 64 → cs[3 + i]? = some (.bool (s.U.getD i false))) ∧ cs[67]? = some (.slice (some ⟨qg, off, none⟩) n c))
    (h2 : (Value.slice (some ⟨qg, off, none⟩) n c).ownBlock ≠ some p ∧ (Value.slice (some ⟨qg, off, none⟩) n c).ownBlock ≠ some g ∧ Own B (.slice (some ⟨g, 0, none⟩) N N) s.H W ∧ p ≠ g ∧ B ≤ p ∧ B ≤ g)
    (hq : Qu B (.slice (some ⟨qg, off', none⟩) n' c') (s.Q.drop d) W) : FlM B p b g m N cap s d (W.setCell ⟨p, 67, none⟩ (.slice (some ⟨qg, off', none⟩) n' c')).drew := by
  obtain ⟨a1, a2, a3, a4, a5, a6⟩ := h1
  obtain ⟨b1, b2, b3, b4, b5, b6⟩ := h2
  have o1 : (Value.slice (some ⟨qg, off', none⟩) n' c').ownBlock ≠ some p := b1
  have o2 : (Value.slice (some ⟨qg, off', none⟩) n' c').ownBlock ≠ some g := b2
  refine ⟨_, _, heap_setCell_same _ _ _ _ _ _ h0, by rw [Array.size_setIfInBounds]; exact a1, ?_, ?_, ?_, ?_, ?_, (hq.setCell o1).drew, o1, o2, ?_, b4, b5, b6⟩
  · rw [Array.getElem?_setIfInBounds_ne (by omega)]; exact a2
  · rw [Array.getElem?_setIfInBounds_ne (by omega)]; exact a3
  · rw [Array.getElem?_setIfInBounds_ne (by omega)]; exact a4
  · intro i hi
    rw [Array.getElem?_setIfInBounds_ne (by omega)]; exact a5 i hi
  · rw [Array.getElem?_setIfInBounds_self_of_lt (by omega)]
  · exact World.ownsRow.kept b3 (row := some p) ⟨rfl, rfl, rfl, by show _ ≤ (W.setCell _ _).heap.size; rw [World.size_setCell]; exact Nat.le_refl _, fun k _ hne => Below.heap_setCell _ _ _ _ (fun e => hne (by rw [e]))⟩ (.inr (fun e => b4 (by simp only [Value.ownBlock, Option.some.injEq] at e; exact e.symm)))

def isT : Value → Bool
  | .bool b => b
  | _ => false
def lenOf : Value → Nat
  | .slice _ n _ => n
  | _ => 0
/-- how many cells are left: those that are not met, and those of the queue -/
def leftIn (p : Nat) (w : World) : Nat :=
  match w.heap[p]? with
  | some (.cells cs _ _) => cntT ((List.range 64).map fun i => isT (cs.getD (3 + i) undef)) + lenOf (cs.getD 67 undef)
  | _ => 0
theorem leftIn_eq {B p b g m N cap d : Nat} {s : FS} {w : World} (h : FlM B p b g m N cap s d w) (hu : s.U.length = 64) : leftIn p w = cntT s.U + (s.Q.length - d) := by
  obtain ⟨qv, cs, h0, h1, h2, h3, h4, h5, h6, h7, _⟩ := h
  obtain ⟨qg, off, qc, cur, rfl, _⟩ := h7
  unfold leftIn
  rw [h0]
  show cntT _ + lenOf _ = _
  rw [Array.getD_eq_getD_getElem?, h6]
  have e : ((List.range 64).map fun i => isT (cs.getD (3 + i) undef)) = s.U := by
    apply List.ext_getElem?
    intro i
    by_cases hi : i < 64
    · rw [List.getElem?_map, List.getElem?_range hi]
      show some (isT (cs.getD (3 + i) undef)) = _
      rw [Array.getD_eq_getD_getElem?, h5 i hi, List.getElem?_eq_getElem (by omega), List.getD_eq_getElem?_getD, List.getElem?_eq_getElem (by omega)]
      rfl
    · rw [List.getElem?_eq_none (by simp; omega), List.getElem?_eq_none (by omega)]
  rw [e]
  show cntT s.U + (s.Q.drop d).length = _
  rw [List.length_drop]

set_option maxRecDepth 100000 in
set_option maxHeartbeats 6400000 in
theorem run_flood (B p b g m N cap : Nat) (L : List Int) (O : Nat → Bool) (s : FS) (w : World) (hm : 1 ≤ m ∧ m ≤ 8) (hN : m * m = N) (hF : Fl N O (fun _ _ => True) s)
    (hLc : ∀ i, i < N → w.cell? ⟨b, i, none⟩ = some (.int .i64 (L.getD i 0))) (hL : ∀ i, 0 ≤ L.getD i 0 ∧ L.getD i 0 ≤ 63) (hb : b < B) (hB : B ≤ w.heap.size) (h : FlM B p b g m N cap s 0 w) :
    Calls Try.prog 48 #[.pointer (some ⟨p, 0, none⟩)] w fun e w' => (∃ r, e = .returned r) ∧ Below B w w' ∧ ∃ k, k = (flo m L s k).Q.length ∧ FlM B p b g m N cap (flo m L s k) k w' := by
  have H0 : Hid (FlM B p b g m N cap (flo m L s 0) 0 w) := Lib.hid h
  have HFl := Lib.hid (fun k => Fl.flo hF hN (hops_true m N L) k)
  have HB0 : Hid (Below B w w) := Lib.hid (Below.refl _ _)
  have HHB := Lib.hid hB
  have HME : Hid (∀ k v, k < (flo m L s k).Q.length → FlM B p b g m N cap (flo m L s k) (k + 1) v → Below B w v → ∀ a : Nat, (flo m L s k).Q.getD k 0 = a → Calls Try.prog 74 #[.pointer (some ⟨p, 0, none⟩), .int .i64 a] v fun e w' =>
      (∃ r, e = .returned r) ∧ FlM B p b g m N cap (flo m L s (k + 1)) (k + 1) w' ∧ Below B w w') := Lib.hid (fun k v hk M K a ha => by
    obtain ⟨a', ha1, ha2, ha3, _⟩ := (HFl.out k).met k hk
    have e : a' = a := by rw [ha] at ha1; omega
    subst e
    refine (meet_any B p b g m N cap (k + 1) a' L O (flo m L s k) v hm hN ha2 (HFl.out k) ha3 hk (fun i hi => (K.cell (p := ⟨b, i, none⟩) hb).trans (hLc i hi)) hL hb (by have := K.size; omega) M).mono ?_
    rintro e w' ⟨h1, h2, h3⟩
    refine ⟨h1, ?_, K.trans h3⟩
    rw [flo_succ, if_pos hk, ha]
    exact h2)
  have HMU : Hid (∀ k d v, FlM B p b g m N cap (flo m L s k) d v → leftIn p v = cntT (flo m L s k).U + ((flo m L s k).Q.length - d)) := Lib.hid (fun k d v M => leftIn_eq M (HFl.out k).ulen)
  have HCN := Lib.hid (fun k => flo_cnt m L s k)
  have HLE := Lib.hid (fun k => flo_len m L s k)
  have HMT := Lib.hid (fun k hk => (HFl.out k).met k hk)
  clear h hF hLc hL hB hm hN
  go_enter Try.func48, Try.ntmps48
  go_wp2
  refine wp_scope_jumps 0 (fun a' w' => ∃ (u1 u2 u3 u4 u5 u6 u7 u8 u9 u10 u11 u12 u13 u14 u15 u16 u17 u18 u19 u20 u21 u22 u23 u24 u25 : Value) (k : Nat), a' = { tmps := #[.pointer (some ⟨p, 0, none⟩), u1, u2, u3, u4, u5, u6, u7, u8, u9, u10, u11, u12, u13, u14, u15, u16, u17, u18, u19, u20, u21, u22, u23, u24, u25], defers := [] } ∧ Hid (FlM B p b g m N cap (flo m L s k) k w') ∧ Hid (Below B w w') ∧ Hid (k ≤ (flo m L s k).Q.length)) (fun _ w' => leftIn p w') rfl ?_ ?_
  · obtain ⟨k, hk0⟩ : ∃ k, k = 0 := ⟨0, rfl⟩
    have M : Hid (FlM B p b g m N cap (flo m L s k) k w) := by rw [hk0]; exact H0
    have K := HB0
    have HK : Hid (k ≤ (flo m L s k).Q.length) := Lib.hid (by rw [hk0]; exact Nat.zero_le _)
    clear hk0
    obtain ⟨qv, cs, h0, h1, h2, h3, h4, h5, h6, h7, h8, h9, h10, h11, h12, h13⟩ := M.out
    have HM2 := Lib.hid (And.intro h1 (And.intro h2 (And.intro h3 (And.intro h4 (And.intro h5 h6)))))
    have HM3 := Lib.hid (And.intro h8 (And.intro h9 (And.intro h10 (And.intro h11 (And.intro h12 h13)))))
    have HR := Lib.hid h0
    have hsh := h7
    obtain ⟨qg, off, qc, cur, rfl, hqb, hqh, hql, hqm, hqs, hqi⟩ := hsh
    have HDL : Hid (((flo m L s k).Q.drop k).length = (flo m L s k).Q.length - k) := Lib.hid (List.length_drop)
    have c67 : w.cell? ⟨p, 67, none⟩ = some (.slice (some ⟨qg, off, none⟩) ((flo m L s k).Q.drop k).length qc) := by rw [cell_of_row _ _ _ _ _ _ h0]; exact h6
    have z67 : w.frozen? ⟨p, 67, none⟩ = false := frozen_of_row _ _ _ _ _ h0
    have HQ := Lib.hid h7
    have HQC := Lib.hid (And.intro hql (And.intro hqm (And.intro hqs hqi)))
    have HQH := Lib.hid hqh
    clear h0 h1 h2 h3 h4 h5 h6 h7 h8 h9 h10 h11 h12 h13 hqb hqh hql hqm hqs hqi
    by_cases hk : k < (flo m L s k).Q.length
    · obtain ⟨a, ha1, ha2, ha3, _⟩ := HMT.out k hk
      have c0 : w.cell? ⟨qg, off, none⟩ = some (.int .i64 (a : Int)) := by
        have e := HQ.out.head (by rw [HDL.out]; omega)
        rw [List.getD_eq_getElem?_getD, List.getElem?_drop, Nat.add_zero, ← List.getD_eq_getElem?_getD, ha1] at e
        exact e
      have HA := Lib.hid ha1
      have HKK := Lib.hid hk
      have HTL := Lib.hid (HQ.out.tail (by rw [HDL.out]; omega))
      obtain ⟨n, hn⟩ : ∃ n, ((flo m L s k).Q.drop k).length = n + 1 := ⟨(flo m L s k).Q.length - k - 1, by rw [HDL.out]; omega⟩
      rw [hn] at c67 HTL
      have HNN := Lib.hid hn
      have hqc := HQC.out
      rw [hn] at hqc
      have hqc1 := hqc.1
      have hnz : (((n + 1 : Nat) : Int) == 0) = false := by simp; omega
      have hn1 : (1 : Int) ≤ ((n + 1 : Nat) : Int) := by omega
      have hn2 : ((n + 1 : Nat) : Int) ≤ (qc : Int) := by omega
      clear hk ha1 ha2 ha3 hn hqc
      have HPOP : Hid (∀ off' c', off' = (if qc = 1 then off else off + 1) → c' = qc - 1 → FlM B p b g m N cap (flo m L s k) (k + 1) (w.setCell ⟨p, 67, none⟩ (.slice (some ⟨qg, off', none⟩) n c')).drew ∧ Below B w (w.setCell ⟨p, 67, none⟩ (.slice (some ⟨qg, off', none⟩) n c')).drew) := Lib.hid (fun off' c' e1 e2 => by
        have hq := HTL.out
        rw [← e1, ← e2, List.drop_drop] at hq
        refine ⟨flm_pop HR.out HM2.out HM3.out (hq : Qu B (.slice (some ⟨qg, off', none⟩) n c') ((flo m L s k).Q.drop (k + 1)) w), (K.out.setCell (p := ⟨p, 67, none⟩) HM3.out.2.2.2.2.1 _).drew⟩)
      clear HTL HNN HQC
      go_wp2
      go_step3
      go_wp2_with fail
      go_region
      all_goals go_wp2_with fail
      · obtain ⟨m1, m2⟩ := HPOP.out off 0 (by rw [if_pos h]) (by rw [h])
        refine (HME.out k _ HKK.out m1 m2 a HA.out).mono ?_
        rintro e W2 ⟨⟨rr, rfl⟩, M2, K2⟩
        have HM4 := Lib.hid M2
        have HK4 := Lib.hid K2
        clear m1 m2 M2 K2
        go_wp2_with fail
        go_step3
        exact ⟨rfl, _, _, _, _, _, _, _, _, _, _, _, _, _, _, _, _, _, _, _, _, _, _, _, _, _, k + 1, rfl, HM4, HK4, Lib.hid (Nat.le_trans HKK.out (HLE.out k))⟩
      · obtain ⟨m1, m2⟩ := HPOP.out (off + 1) (qc - 1) (by rw [if_neg h]) rfl
        refine (HME.out k _ HKK.out m1 m2 a HA.out).mono ?_
        rintro e W2 ⟨⟨rr, rfl⟩, M2, K2⟩
        have HM4 := Lib.hid M2
        have HK4 := Lib.hid K2
        clear m1 m2 M2 K2
        go_wp2_with fail
        go_step3
        exact ⟨rfl, _, _, _, _, _, _, _, _, _, _, _, _, _, _, _, _, _, _, _, _, _, _, _, _, _, k + 1, rfl, HM4, HK4, Lib.hid (Nat.le_trans HKK.out (HLE.out k))⟩
    · have hz : ((flo m L s k).Q.drop k).length = 0 := by rw [HDL.out]; omega
      rw [hz] at c67
      have HKE : Hid (k = (flo m L s k).Q.length) := Lib.hid (by have := HK.out; omega)
      clear hk hz
      go_wp2
      go_step3
      go_wp2_with fail
      simp only [Exit.jump]
      refine bodyPost_ret (results_none rfl _ _ _) rfl ?_
      exact ⟨⟨_, rfl⟩, K.out, k, HKE.out, M.out⟩

  · rintro a' w' ⟨u1, u2, u3, u4, u5, u6, u7, u8, u9, u10, u11, u12, u13, u14, u15, u16, u17, u18, u19, u20, u21, u22, u23, u24, u25, k, rfl, M, K, HK⟩
    obtain ⟨qv, cs, h0, h1, h2, h3, h4, h5, h6, h7, h8, h9, h10, h11, h12, h13⟩ := M.out
    have HM2 := Lib.hid (And.intro h1 (And.intro h2 (And.intro h3 (And.intro h4 (And.intro h5 h6)))))
    have HM3 := Lib.hid (And.intro h8 (And.intro h9 (And.intro h10 (And.intro h11 (And.intro h12 h13)))))
    have HR := Lib.hid h0
    have hsh := h7
    obtain ⟨qg, off, qc, cur, rfl, hqb, hqh, hql, hqm, hqs, hqi⟩ := hsh
    have HDL : Hid (((flo m L s k).Q.drop k).length = (flo m L s k).Q.length - k) := Lib.hid (List.length_drop)
    have c67 : w'.cell? ⟨p, 67, none⟩ = some (.slice (some ⟨qg, off, none⟩) ((flo m L s k).Q.drop k).length qc) := by rw [cell_of_row _ _ _ _ _ _ h0]; exact h6
    have z67 : w'.frozen? ⟨p, 67, none⟩ = false := frozen_of_row _ _ _ _ _ h0
    have HQ := Lib.hid h7
    have HQC := Lib.hid (And.intro hql (And.intro hqm (And.intro hqs hqi)))
    have HQH := Lib.hid hqh
    clear h0 h1 h2 h3 h4 h5 h6 h7 h8 h9 h10 h11 h12 h13 hqb hqh hql hqm hqs hqi
    by_cases hk : k < (flo m L s k).Q.length
    · obtain ⟨a, ha1, ha2, ha3, _⟩ := HMT.out k hk
      have c0 : w'.cell? ⟨qg, off, none⟩ = some (.int .i64 (a : Int)) := by
        have e := HQ.out.head (by rw [HDL.out]; omega)
        rw [List.getD_eq_getElem?_getD, List.getElem?_drop, Nat.add_zero, ← List.getD_eq_getElem?_getD, ha1] at e
        exact e
      have HA := Lib.hid ha1
      have HKK := Lib.hid hk
      have HTL := Lib.hid (HQ.out.tail (by rw [HDL.out]; omega))
      obtain ⟨n, hn⟩ : ∃ n, ((flo m L s k).Q.drop k).length = n + 1 := ⟨(flo m L s k).Q.length - k - 1, by rw [HDL.out]; omega⟩
      rw [hn] at c67 HTL
      have HNN := Lib.hid hn
      have hqc := HQC.out
      rw [hn] at hqc
      have hqc1 := hqc.1
      have hnz : (((n + 1 : Nat) : Int) == 0) = false := by simp; omega
      have hn1 : (1 : Int) ≤ ((n + 1 : Nat) : Int) := by omega
      have hn2 : ((n + 1 : Nat) : Int) ≤ (qc : Int) := by omega
      clear hk ha1 ha2 ha3 hn hqc
      have HPOP : Hid (∀ off' c', off' = (if qc = 1 then off else off + 1) → c' = qc - 1 → FlM B p b g m N cap (flo m L s k) (k + 1) (w'.setCell ⟨p, 67, none⟩ (.slice (some ⟨qg, off', none⟩) n c')).drew ∧ Below B w (w'.setCell ⟨p, 67, none⟩ (.slice (some ⟨qg, off', none⟩) n c')).drew) := Lib.hid (fun off' c' e1 e2 => by
        have hq := HTL.out
        rw [← e1, ← e2, List.drop_drop] at hq
        refine ⟨flm_pop HR.out HM2.out HM3.out (hq : Qu B (.slice (some ⟨qg, off', none⟩) n c') ((flo m L s k).Q.drop (k + 1)) w'), (K.out.setCell (p := ⟨p, 67, none⟩) HM3.out.2.2.2.2.1 _).drew⟩)
      clear HTL HNN HQC
      go_wp2_with fail
      go_region
      all_goals go_wp2_with fail
      · obtain ⟨m1, m2⟩ := HPOP.out off 0 (by rw [if_pos h]) (by rw [h])
        refine (HME.out k _ HKK.out m1 m2 a HA.out).mono ?_
        rintro e W2 ⟨⟨rr, rfl⟩, M2, K2⟩
        have HM4 := Lib.hid M2
        have HK4 := Lib.hid K2
        clear m1 m2 M2 K2
        go_wp2_with fail
        go_step3
        refine ⟨rfl, ⟨_, _, _, _, _, _, _, _, _, _, _, _, _, _, _, _, _, _, _, _, _, _, _, _, _, k + 1, rfl, HM4, HK4, Lib.hid (Nat.le_trans HKK.out (HLE.out k))⟩, ?_⟩
        have h1 := HMU.out (k + 1) (k + 1) _ HM4.out
        have h2 := HMU.out k k _ M.out
        have h3 := HCN.out k
        have h4 := HCN.out (k + 1)
        have h5 := HKK.out
        have h6 := HLE.out k
        show leftIn p W2 < leftIn p w'
        omega
      · obtain ⟨m1, m2⟩ := HPOP.out (off + 1) (qc - 1) (by rw [if_neg h]) rfl
        refine (HME.out k _ HKK.out m1 m2 a HA.out).mono ?_
        rintro e W2 ⟨⟨rr, rfl⟩, M2, K2⟩
        have HM4 := Lib.hid M2
        have HK4 := Lib.hid K2
        clear m1 m2 M2 K2
        go_wp2_with fail
        go_step3
        refine ⟨rfl, ⟨_, _, _, _, _, _, _, _, _, _, _, _, _, _, _, _, _, _, _, _, _, _, _, _, _, k + 1, rfl, HM4, HK4, Lib.hid (Nat.le_trans HKK.out (HLE.out k))⟩, ?_⟩
        have h1 := HMU.out (k + 1) (k + 1) _ HM4.out
        have h2 := HMU.out k k _ M.out
        have h3 := HCN.out k
        have h4 := HCN.out (k + 1)
        have h5 := HKK.out
        have h6 := HLE.out k
        show leftIn p W2 < leftIn p w'
        omega
    · have hz : ((flo m L s k).Q.drop k).length = 0 := by rw [HDL.out]; omega
      rw [hz] at c67
      have HKE : Hid (k = (flo m L s k).Q.length) := Lib.hid (by have := HK.out; omega)
      clear hk hz
      go_wp2_with fail
      simp only [Exit.jump]
      refine bodyPost_ret (results_none rfl _ _ _) rfl ?_
      exact ⟨⟨_, rfl⟩, K.out, k, HKE.out, M.out⟩


end Go.Proofs.Ytjmfffgddmnkmac
