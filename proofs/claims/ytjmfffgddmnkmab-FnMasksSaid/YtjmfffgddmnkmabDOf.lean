/- The draw of a wave of a side. Condition: a source, a side. -/
import Derived.Test.YtjmfffgddmnkmabDWv
import Derived.Test.YtjmfffgddmnkmabSpecW
namespace Go.Proofs.Ytjmfffgddmnkmab
open Go Go.RowKit

set_option maxRecDepth 100000 in
set_option maxHeartbeats 800000 in
theorem drawOf_any (p : Nat) (n : Int) (hn : n = 1 ∨ n = 2 ∨ n = 4 ∨ n = 8) (w : World) (hs : Src p w) : Calls Try.prog 137 #[.pointer (some ⟨p, 0, none⟩), .int .i64 n] w (WavD p n w) := by
  have hz37 := (zero_of_info info37').1
  have HS37 := Lib.hid (zero_of_info info37').2
  have HZ37 : Hid ((pic 0 zc).size = 65) := Lib.hid (pic_size 0 zc zc_size)
  have HE37 : Hid ((pic n zc).size = 65) := Lib.hid (pic_size n zc zc_size)
  have HE1 : Hid ((pic n zc).all (·.oneCell') = true) := Lib.hid (zc_one n)
  have HEI : Hid ((Try.prog.info? 30).map (·.size) = some (pic n zc).size) := Lib.hid (by rw [HE37.out]; exact HS37.out)
  have HZE : Hid ((pic 0 zc).size = (pic n zc).size) := Lib.hid (by rw [HZ37.out, HE37.out])
  have HE := Lib.hid (empty_any n)
  obtain ⟨E, hE⟩ : ∃ E, E = pic n zc := ⟨_, rfl⟩
  rw [← hE] at HE37 HE1 HEI HZE HE
  have HEE := Lib.hid hE
  have HZW := Lib.hid (wav_zc 0)
  generalize pic 0 zc = Z at *
  clear hE
  have HSS := Lib.hid hs
  clear hs
  go_enter Try.func137, Try.ntmps137
  go_wp2_with (first | (go_at_call 106; refine (HE.out _).mono ?_; rintro e w' ⟨rfl, rfl⟩))
  refine (next_any p 8 _ ((HSS.out.alloc _).alloc _)).mono ?_
  rintro e w1 ⟨r, rfl, r0, r1, s1, o1⟩
  have hp := HSS.out.lt
  have g0 : w1.heap[w.heap.size]? = some (.cells Z 30 (0, 0)) := by rw [o1.block _ (by rw [size_al, size_al]; omega) (by omega)]; exact h2_0 _ _ _
  have g1 : w1.heap[w.heap.size + 1]? = some (.cells E 30 (0, 0)) := by rw [o1.block _ (by rw [size_al, size_al]; omega) (by omega)]; exact h2_1 _ _ _
  have S := Lib.hid s1
  have O := Lib.hid ((((Own.refl p w).alloc _).alloc _).trans o1)
  have G0 := Lib.hid g0
  have G1 := Lib.hid g1
  clear s1 o1 g0 g1
  have P0 := Lib.hid (show w1.heap.size ≠ p by have := O.out.size; omega)
  have W0 := Lib.hid (S.out.alloc (.cells E 30))
  by_cases hr : r = 0
  · subst hr
    go_wp2_with (refine wpList_store_row rfl 30 (.tmp 5) (.tmp 9) rfl w1.heap.size E rfl rfl 30 Z (h1_0 _ _) HEI.out HZE.out HE1.out ?_; rw [World.setRow_alloc_new])
    have hg0 : Hid (∀ wr, Own p w1 wr → wr.heap[w.heap.size]? = some (.cells Z 30 (0, 0))) := Lib.hid fun wr o => by
      rw [o.block _ (by have := O.out.size; have e := G0.out; by_cases hl : w.heap.size < w1.heap.size; exact hl; rw [Array.getElem?_eq_none (by omega)] at e; cases e) (by omega)]; exact G0.out
    have A0 := Lib.hid ((Own.refl p w1).alloc (.cells E 30))
    have B0 := Lib.hid (O.out.alloc (.cells E 30))
    generalize w1.alloc (.cells E 30) = w2 at *
    refine (next_any p 8 _ W0.out).mono ?_
    rintro e w3 ⟨u, rfl, u0, u1, s3, o3⟩
    have S3 := Lib.hid s3
    have A3 := Lib.hid (A0.out.trans o3)
    have B3 := Lib.hid (B0.out.trans o3)
    clear s3 o3
    go_wp2_with fail
    refine (next_any p 8 _ S3.out).mono ?_
    rintro e w4 ⟨v, rfl, v0, v1, s4, o4⟩
    have S4 := Lib.hid s4
    have A4 := Lib.hid (A3.out.trans o4)
    have B4 := Lib.hid (B3.out.trans o4)
    clear s4 o4
    have hsn : side n = true := by rcases hn with rfl | rfl | rfl | rfl <;> rfl
    have hwu : within u = true := by unfold within; simp; omega
    have hwv : within v = true := by unfold within; simp; omega
    go_wp2_with (go_at_call 114; fail)
    have hwav := wav_fill n (parts n.toNat (64 / n) u v) (n * n).toNat
    have hpl := plane_any n u v hsn hwu hwv w4
    unfold pw at hpl
    obtain ⟨D, hDD⟩ : ∃ D, D = pic n (fill (parts n.toNat (64 / n) u v) (n * n).toNat) := ⟨_, rfl⟩
    rw [← hDD] at hpl hwav
    clear hDD
    refine hpl.mono ?_
    rintro e w5 ⟨rfl, b5⟩
    have S5 := Lib.hid (S4.out.below b5)
    have A5 := Lib.hid (A4.out.trans (Below.toOwn b5 p))
    have B5 := Lib.hid (B4.out.trans (Below.toOwn b5 p))
    have GZ := Lib.hid (hg0.out _ A5.out)
    have HD1 := Lib.hid (wav_one hwav)
    have HDI : Hid ((Try.prog.info? 30).map (·.size) = some D.size) := Lib.hid (by rw [hwav.1]; exact HS37.out)
    have HZD : Hid (Z.size = D.size) := Lib.hid (by rw [hwav.1]; exact HZ37.out)
    have HD := Lib.hid hwav
    clear hwav b5 hz37 hpl
    go_wp2_with (refine wpList_store_row rfl 30 (.tmp 4) (.tmp 19) rfl w.heap.size D rfl rfl 30 Z GZ.out HDI.out HZD.out HD1.out ?_)
    refine bodyPost_ret (v := .agg D) (results_cell_row (fn := Try.f137) (p := 4) (ty := 30) rfl _ _ w.heap.size 30 D (0, 0) _ rfl (setRow_heap _ _ _ _ _ _ GZ.out) Try.underlying30 rfl HDI.out) rfl ⟨D, rfl, HD.out, ?_, ?_⟩
    · exact S5.out.setRow GZ.out (by omega) HZW.out _
    · exact B5.out.setRow _ _ (Nat.le_refl _)
  · have hr' : (r == 0) = false := by simp [hr]
    obtain ⟨N, hN, hN64⟩ : ∃ N : Nat, IntKind.i64.wrap (n * n) = (N : Int) ∧ N ≤ 64 := by
      rcases hn with rfl | rfl | rfl | rfl
      · exact ⟨1, rfl, by omega⟩
      · exact ⟨4, rfl, by omega⟩
      · exact ⟨16, rfl, by omega⟩
      · exact ⟨64, rfl, by omega⟩
    go_wp2_with (refine wpList_store_row rfl 30 (.tmp 5) (.tmp 9) rfl w1.heap.size E rfl rfl 30 Z (h1_0 _ _) HEI.out HZE.out HE1.out ?_; rw [World.setRow_alloc_new])
    have L0 : Hid (Lies p n w w1.heap.size (w1.alloc (.cells E 30))) := Lib.hid ⟨E, h1_0 _ _, by rw [HEE.out]; exact wav_zc n, W0.out, O.out.alloc _⟩
    have P1 := Lib.hid (show w.heap.size ≤ w1.heap.size by have := O.out.size; omega)
    have hg0 : Hid (∀ wr, Own p w1 wr → wr.heap[w.heap.size]? = some (.cells Z 30 (0, 0))) := Lib.hid fun wr o => by
      rw [o.block _ (by have := O.out.size; have e := G0.out; by_cases hl : w.heap.size < w1.heap.size; exact hl; rw [Array.getElem?_eq_none (by omega)] at e; cases e) (by omega)]; exact G0.out
    have A0 := Lib.hid ((Own.refl p w1).alloc (.cells E 30))
    generalize w1.alloc (.cells E 30) = w2 at *
    generalize hgg : w1.heap.size = g at *
    go_loopw [7] (fun i wr => ∃ k : Nat, k ≤ N ∧ i = .int .i64 k ∧ Hid (Lies p n w g wr) ∧ Hid (Own p w1 wr)) (fun i _ => N - (intOf i).toNat)
    case atStart => exact ⟨0, by omega, rfl, L0, A0⟩
    case round =>
      obtain ⟨k, hk, rfl, L, A⟩ := hrel
      by_cases hlt : k < N
      · by_cases h1 : r = 1
        · subst h1
          go_wp2_with fail
          refine (next_any p 2 _ (L.out.elim fun _ h => h.2.2.1)).mono ?_
          rintro e9 w9 ⟨q, rfl, q0, q1, s9, o9⟩
          replace L := Lib.hid (Lies.own L.out P0.out s9 o9)
          replace A := Lib.hid (A.out.trans o9)
          clear s9 o9
          by_cases hq : q = 0
          · subst hq
            go_wp2_with fail
            refine (drawUnit_any p _ (L.out.elim fun _ h => h.2.2.1)).mono ?_
            rintro e9 w9 ⟨x, rfl, s9, o9⟩
            replace L := Lib.hid (Lies.own L.out P0.out s9 o9)
            replace A := Lib.hid (A.out.trans o9)
            clear s9 o9
            go_wp2_with fail
            refine (drawUnit_any p _ (L.out.elim fun _ h => h.2.2.1)).mono ?_
            rintro e9 w9 ⟨y, rfl, s9, o9⟩
            replace L := Lib.hid (Lies.own L.out P0.out s9 o9)
            replace A := Lib.hid (A.out.trans o9)
            clear s9 o9
            obtain ⟨cx, cy, hcell⟩ := L.out.cell k (by omega)
            have hfree := L.out.free k
            go_wp2_with fail
            exact ⟨⟨k + 1, by omega, by go_num, Lib.hid (L.out.set P0.out P1.out k x y), Lib.hid (A.out.setNew g _ _ (by omega))⟩, by show N - ((k : Int) + 1).toNat < N - (k : Int).toNat; omega⟩
          · have hq' : (q == 0) = false := by simp [hq]
            go_wp2_with fail
            refine (simple_any p _ (L.out.elim fun _ h => h.2.2.1)).mono ?_
            rintro e9 w9 ⟨x, y, rfl, s9, o9⟩
            replace L := Lib.hid (Lies.own L.out P0.out s9 o9)
            replace A := Lib.hid (A.out.trans o9)
            clear s9 o9
            obtain ⟨cx, cy, hcell⟩ := L.out.cell k (by omega)
            have hfree := L.out.free k
            go_wp2_with fail
            exact ⟨⟨k + 1, by omega, by go_num, Lib.hid (L.out.set P0.out P1.out k x y), Lib.hid (A.out.setNew g _ _ (by omega))⟩, by show N - ((k : Int) + 1).toNat < N - (k : Int).toNat; omega⟩
        by_cases h2 : r = 2
        · subst h2
          go_wp2_with fail
          refine (next_any p 12 _ (L.out.elim fun _ h => h.2.2.1)).mono ?_
          rintro e9 w9 ⟨q, rfl, q0, q1, s9, o9⟩
          replace L := Lib.hid (Lies.own L.out P0.out s9 o9)
          replace A := Lib.hid (A.out.trans o9)
          clear s9 o9
          by_cases hq : q = 0
          · subst hq
            go_wp2_with fail
            refine (drawNumber_any p _ (L.out.elim fun _ h => h.2.2.1)).mono ?_
            rintro e9 w9 ⟨x, rfl, s9, o9⟩
            replace L := Lib.hid (Lies.own L.out P0.out s9 o9)
            replace A := Lib.hid (A.out.trans o9)
            clear s9 o9
            go_wp2_with fail
            refine (drawUnit_any p _ (L.out.elim fun _ h => h.2.2.1)).mono ?_
            rintro e9 w9 ⟨y, rfl, s9, o9⟩
            replace L := Lib.hid (Lies.own L.out P0.out s9 o9)
            replace A := Lib.hid (A.out.trans o9)
            clear s9 o9
            obtain ⟨cx, cy, hcell⟩ := L.out.cell k (by omega)
            have hfree := L.out.free k
            go_wp2_with fail
            exact ⟨⟨k + 1, by omega, by go_num, Lib.hid (L.out.set P0.out P1.out k x y), Lib.hid (A.out.setNew g _ _ (by omega))⟩, by show N - ((k : Int) + 1).toNat < N - (k : Int).toNat; omega⟩
          · have hq' : (q == 0) = false := by simp [hq]
            go_wp2_with fail
            refine (simple_any p _ (L.out.elim fun _ h => h.2.2.1)).mono ?_
            rintro e9 w9 ⟨x, y, rfl, s9, o9⟩
            replace L := Lib.hid (Lies.own L.out P0.out s9 o9)
            replace A := Lib.hid (A.out.trans o9)
            clear s9 o9
            obtain ⟨cx, cy, hcell⟩ := L.out.cell k (by omega)
            have hfree := L.out.free k
            go_wp2_with fail
            exact ⟨⟨k + 1, by omega, by go_num, Lib.hid (L.out.set P0.out P1.out k x y), Lib.hid (A.out.setNew g _ _ (by omega))⟩, by show N - ((k : Int) + 1).toNat < N - (k : Int).toNat; omega⟩
        · have h1' : (r == 1) = false := by simp [h1]
          have h2' : (r == 2) = false := by simp [h2]
          go_wp2_with fail
          refine (simple_any p _ (L.out.elim fun _ h => h.2.2.1)).mono ?_
          rintro e9 w9 ⟨x, y, rfl, s9, o9⟩
          replace L := Lib.hid (Lies.own L.out P0.out s9 o9)
          replace A := Lib.hid (A.out.trans o9)
          clear s9 o9
          obtain ⟨cx, cy, hcell⟩ := L.out.cell k (by omega)
          have hfree := L.out.free k
          go_wp2_with fail
          exact ⟨⟨k + 1, by omega, by go_num, Lib.hid (L.out.set P0.out P1.out k x y), Lib.hid (A.out.setNew g _ _ (by omega))⟩, by show N - ((k : Int) + 1).toNat < N - (k : Int).toNat; omega⟩
      · obtain ⟨D, hgD, hd, sD, oD⟩ := L.out
        have GD := Lib.hid hgD
        have GZ := Lib.hid (hg0.out _ A.out)
        have HD1 := Lib.hid (wav_one hd)
        have HDI : Hid ((Try.prog.info? 30).map (·.size) = some D.size) := Lib.hid (by rw [hd.1]; exact HS37.out)
        have HZD : Hid (Z.size = D.size) := Lib.hid (by rw [hd.1]; exact HZ37.out)
        have SD := Lib.hid sD
        have OD := Lib.hid oD
        have HD := Lib.hid hd
        clear hgD hd sD oD hz37
        go_wp2_with (first | (refine wpList_load_row rfl 30 (.tmp 5) rfl g rfl 30 D (0, 0) _ GD.out Try.underlying30 rfl HDI.out ?_) | (refine wpList_store_row rfl 30 (.tmp 4) (.tmp 64) rfl w.heap.size D rfl rfl 30 Z GZ.out HDI.out HZD.out HD1.out ?_))
        refine bodyPost_ret (v := .agg D) (results_cell_row (fn := Try.f137) (p := 4) (ty := 30) rfl _ _ w.heap.size 30 D (0, 0) _ rfl (setRow_heap _ _ _ _ _ _ GZ.out) Try.underlying30 rfl HDI.out) rfl ⟨D, rfl, HD.out, ?_, ?_⟩
        · exact SD.out.setRow GZ.out (by omega) HZW.out _
        · exact OD.out.setRow _ _ (Nat.le_refl _)
end Go.Proofs.Ytjmfffgddmnkmab
