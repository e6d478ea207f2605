/- The program's SumsBack: the list and the code, whatever the list is. Condition: as many numbers as a law lets in. -/
import Derived.Test.YtclflnpbiiimiaaDoorISb
import Derived.Test.YtclflnpbiiimiaaDoorKh
namespace Go.Proofs.YtclflnpbiiimiaaDoor
open Go Go.RowKit Ieee

set_option maxRecDepth 100000 in
set_option maxHeartbeats 1600000 in
theorem implBk (A : List Nat) : ListsF 14 A (bkList A) (sbCode A) := by
  intro lA u w hU
  have HSB := Lib.hid (implSb A lA u w hU)
  obtain ⟨aA, cA, rfl, hA⟩ := hU.came
  cases hc : decide (sbCode A = 0)
  · have hc0 : sbCode A ≠ 0 := of_decide_eq_false hc
    have HE1 : Hid (sbList A = []) := Lib.hid (by unfold sbList; rw [if_neg hc0])
    have HE2 : Hid (bkList A = []) := Lib.hid (by unfold bkList; rw [if_neg hc0])
    rw [HE1.out] at HSB
    generalize sbCode A = C at *
    clear hU hA lA hc hc0
    go_enter Tryd.func14, Tryd.ntmps14
    go_wp2_with fail
    refine HSB.out.mono ?_
    rintro e w1 ⟨r, rfl, hO, hb⟩
    have B1 := Lib.hid hb
    have HO := Lib.hid hO
    obtain ⟨ad, cp, rfl, _⟩ := hO.came
    clear hO hb
    go_wp2_with fail
    go_loopw [14] (fun i wr => i = .int .i64 0 ∧ wr = w1) (fun _ _ => 0)
    case atStart => exact ⟨rfl, rfl⟩
    case round =>
      obtain ⟨rfl, rfl⟩ := hrel
      go_wp2_with fail
      go_ret2
      exact ⟨_, rfl, by rw [HE2.out]; exact HO.out, B1.out⟩
  · have hc0 : sbCode A = 0 := of_decide_eq_true hc
    have h0 := hc0
    have hf : A.all fin = true := by
      unfold sbCode at h0
      cases h : A.all fin
      · rw [if_pos h] at h0; omega
      · rfl
    have hn : lenI (A.length : Int) = true := by
      unfold sbCode at h0
      cases h : lenI (A.length : Int)
      · rw [if_neg (by rw [hf]; decide), if_pos h] at h0; omega
      · rfl
    have ho : okRnd A (lg A.length) = true := by
      unfold sbCode at h0
      rw [if_neg (by rw [hf]; decide), if_neg (by rw [hn]; decide)] at h0
      cases h : okRnd A (lg A.length)
      · rw [if_neg (by rw [h]; decide)] at h0; omega
      · rfl
    have hn64 : 1 ≤ A.length ∧ A.length ≤ 64 := by rcases lenI_yes hn with e | e | e | e | e | e | e <;> omega
    have HE1 : Hid (sbList A = rnds A (lg A.length)) := Lib.hid (by unfold sbList; rw [if_pos hc0])
    have HE2 : Hid (bkList A = (rnds A (lg A.length)).map (fun x => divS x (fl32 A.length))) := Lib.hid (by unfold bkList; rw [if_pos hc0])
    have HMF := Lib.hid (okRnd_last ho)
    have hml : (rnds A (lg A.length)).length = A.length := rnds_len _ _
    have HDV := Lib.hid (fun x hx => divS_some x A.length hx hn)
    rw [HE1.out, hc0] at HSB
    rw [hc0]
    generalize rnds A (lg A.length) = M at *
    have HML := Lib.hid hml
    generalize hnA : A.length = n at *
    clear hU hA lA hc hc0 h0 hf hn ho hml hnA
    go_enter Tryd.func14, Tryd.ntmps14
    go_wp2_with fail
    refine HSB.out.mono ?_
    rintro e w1 ⟨r, rfl, O3, B3⟩
    have BB := Lib.hid B3
    obtain ⟨g, cp, rfl, hg, _⟩ := O3.form (by rw [HML.out]; omega)
    have OO : Hid (OwnF w.heap.size (.slice (some ⟨g, 0, none⟩) M.length cp) (bpre M (fun x => divS x (fl32 n)) 0) w1) := Lib.hid (by rw [bpre_zero]; exact O3)
    rw [HML.out] at OO ⊢
    have HG := Lib.hid hg
    clear O3 B3 hg
    go_wp2_with fail
    go_loopw [14] (fun i wr => ∃ k : Nat, k ≤ n ∧ i = .int .i64 k ∧ Hid (OwnF w.heap.size (.slice (some ⟨g, 0, none⟩) n cp) (bpre M (fun x => divS x (fl32 n)) k) wr) ∧ Hid (Below w.heap.size w wr)) (fun i _ => n - (intOf i).toNat)
    case atStart => exact ⟨0, by omega, rfl, OO, BB⟩
    case round =>
      clear OO BB
      obtain ⟨k, hk, rfl, O, B⟩ := hrel
      by_cases hlt : k < n
      · have hdk : decide ((k : Int) < (n : Int)) = true := by simp; omega
        have hkM : k < M.length := by rw [HML.out]; exact hlt
        have hbl := bpre_len M (fun x => divS x (fl32 n)) k (by omega)
        rw [HML.out] at hbl
        have o3 : OwnF w.heap.size (.slice (some ⟨g, 0, none⟩) (bpre M (fun x => divS x (fl32 n)) k).length cp) (bpre M (fun x => divS x (fl32 n)) k) wr := by rw [hbl]; exact O.out
        have c1 := o3.cell k (by omega)
        have f1 := o3.free k
        rw [bpre_old M _ k hkM] at c1
        have hd := HDV.out (M.getD k 0) (all_at HMF.out k hkM)
        have O5 := o3.stored k (divS (M.getD k 0) (fl32 n))
        rw [bpre_set M (fun x => divS x (fl32 n)) k hkM, hbl] at O5
        have OO := Lib.hid O5
        have BB : Hid (Below w.heap.size w (wr.setCell ⟨g, k, none⟩ (.float .f32 (divS (M.getD k 0) (fl32 n))))) := Lib.hid (B.out.setCell (p := ⟨g, k, none⟩) HG.out _)
        generalize M.getD k 0 = x at *
        have h1 := fun w => run_float_arith (P := Tryd.prog) w .quo 38 .f32 x (fl32 n) (divS x (fl32 n)) hd
        generalize hZ : divS x (fl32 n) = z at *
        have h2 : ∀ w, (binOp .quo 38 (.float .f32 x) (.float .f32 (floatOfInt .f32 (n : Int)))).run Tryd.prog w = .ok (.float .f32 z) w := h1
        clear o3 O5 hd hkM hbl h1 hZ
        go_wp2_with fail
        exact ⟨⟨k + 1, by omega, by go_num, OO, BB⟩, by simp [intOf]; omega⟩
      · obtain rfl : k = n := by omega
        have O3 : Hid (OwnF w.heap.size (.slice (some ⟨g, 0, none⟩) k cp) (M.map (fun x => divS x (fl32 k))) wr) := Lib.hid (by
          have := O.out
          rw [← HML.out, bpre_all, HML.out] at this
          exact this)
        go_wp2_with fail
        go_ret2
        exact ⟨_, rfl, by rw [HE2.out]; exact O3.out, B.out⟩

end Go.Proofs.YtclflnpbiiimiaaDoor
