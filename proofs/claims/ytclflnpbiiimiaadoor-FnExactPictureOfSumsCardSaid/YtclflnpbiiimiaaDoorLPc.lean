/- What the law of PictureOfSums does: it returns true where program and model answer one picture and one code. Condition: these answers, no level of which is a NaN. -/
import Derived.Test.YtclflnpbiiimiaaDoorKo
namespace Go.Proofs.YtclflnpbiiimiaaDoor
open Go Go.RowKit

/-- 64 floats, none a NaN -/
def Nums (zs : Array Value) : Prop := zs.size = 64 ∧ ∀ k, k < 64 → ∃ x, NotNan x ∧ zs[k]? = some (.float .f32 x)

set_option maxHeartbeats 400000 in
theorem eqFloats64 (zs : Array Value) (hz : Nums zs) (w : World) : Calls Tryd.prog 62 #[.agg zs, .agg zs] w fun e w' => e = .returned (.bool true) ∧ Below w.heap.size w w' := by
  have HZ := Lib.hid hz
  clear hz
  go_enter Tryd.func62, Tryd.ntmps62
  go_wp2
  go_loopw [5] (fun i wr => ∃ k n : Nat, k ≤ 64 ∧ i = .int .i64 k ∧ Hid (wr = ((w.alloc (.cells zs 39)).alloc (.cells zs 39)).drewN n)) (fun i _ => 64 - (intOf i).toNat)
  case atStart => exact ⟨0, 0, by omega, rfl, Lib.hid rfl⟩
  case round =>
    obtain ⟨k, n, hk, rfl, HW⟩ := hrel
    by_cases hlt : k < 64
    · obtain ⟨x, hx, hzk⟩ := HZ.out.2 k hlt
      obtain ⟨c, hc, hown⟩ := conv_notnan x hx
      have hcv := fun w => run_convert_float_float (P := Tryd.prog) w 38 85 .f32 .f64 x c (by rw [Tryd.underlying38]; rfl) Tryd.underlying85 hc
      have c1 : wr.cell? ⟨w.heap.size, k, none⟩ = some (.float .f32 x) := by
        rw [HW.out, World.cell?_drewN, cell_of_row _ _ _ zs 39 (0, 0) (h2_0 _ _ _)]; exact hzk
      have c2 : wr.cell? ⟨w.heap.size + 1, k, none⟩ = some (.float .f32 x) := by
        rw [HW.out, World.cell?_drewN, cell_of_row _ _ _ zs 39 (0, 0) (h2_1 _ _ _)]; exact hzk
      have HS := Lib.hid (sameFloat_refl c hown)
      clear hx hc hown hzk
      go_wp2_with fail
      go_quiet ((go_at_call 63; exact Calls.quiet_of_same ((HS.out _).mono fun e w' h => ⟨h.1, h.2.symm⟩)))
      go_wp2
      refine ⟨⟨k + 1, _, by omega, by go_num, Lib.hid (by rw [HW.out, World.drewN_drewN])⟩, by simp [intOf]; omega⟩
    · obtain rfl : k = 64 := by omega
      go_wp2
      go_ret
      refine ⟨rfl, ?_⟩
      rw [HW.out]
      exact below_drewN (((Below.refl _ _).alloc (Nat.le_refl _) _).alloc (by rw [size_al]; omega) _) _

set_option maxRecDepth 100000 in
set_option maxHeartbeats 400000 in
theorem eqPic_refl (n : Int) (zs : Array Value) (hz : Nums zs) (w : World) : Calls Tryd.prog 30 #[.agg (pic n zs), .agg (pic n zs)] w fun e w' => e = .returned (.bool true) ∧ Below w.heap.size w w' := by
  have h0 := pic_zero n zs
  have HP := Lib.hid (pic_part n zs)
  have HS : Hid ((Tryd.prog.info? 39).map (·.size) = some zs.size) := Lib.hid (by rw [hz.1]; exact size28)
  have HE := Lib.hid (eqFloats64 zs hz)
  have hnn : (n != n) = false := by simp
  generalize pic n zs = cs at *
  clear hz
  go_enter Tryd.func30, Tryd.ntmps30
  go_wp2_with (first | fail | (refine wpList_load_part rfl 39 (.tmp 10) rfl w.heap.size 1 rfl zs _ 41 cs (0, 0) (h2_0 _ _ _) HP.out Tryd.underlying39 rfl HS.out ?_) | (refine wpList_load_part rfl 39 (.tmp 12) rfl (w.heap.size + 1) 1 rfl zs _ 41 cs (0, 0) (h2_1 _ _ _) HP.out Tryd.underlying39 rfl HS.out ?_))
  refine (HE.out _).mono ?_
  rintro e w1 ⟨rfl, b1⟩
  have B1 := Lib.hid b1
  clear b1
  go_wp2
  go_ret
  refine ⟨rfl, ((((Below.refl _ _).alloc (Nat.le_refl _) _).alloc (by rw [size_al]; omega) _).trans (B1.out.mono ?_))⟩
  rw [size_al, size_al]; omega

theorem gl_nums (F : Nat → Nat) (k : Nat) (h : ∀ i, i < k → NotNan (F i)) : Nums (gl F k) := by
  refine ⟨gl_size F k, fun i hi => ?_⟩
  rw [gl_get, if_pos hi]
  by_cases h1 : i < k
  · exact ⟨_, h i h1, by rw [if_pos h1]⟩
  · exact ⟨0, notnan_fin 0 (by decide), by rw [if_neg h1]⟩
theorem mx2_num (x : Nat) (h : NotNan x) : NotNan (mx2 x 0) := by
  have h0 : NotNan 0 := notnan_fin 0 (by decide)
  unfold mx2
  split
  · exact h0
  · exact h
  · split
    · exact h0
    · exact h
  · exact h0
theorem pcZ_nums (n : Int) (A : List Nat) : Nums (pcZ n A) := by
  unfold pcZ
  split
  · rename_i hc
    refine gl_nums _ _ (fun i hi => mx2_num _ ?_)
    unfold pcC at hc
    split at hc
    · cases hc
    · rename_i hf
      have hf : A.all fin = true := by
        cases h : A.all fin
        · exact absurd h hf
        · rfl
      split at hc
      · cases hc
      · cases hl : lenI (A.length : Int)
        · rw [(sb_len hf hl).1] at hc; cases hc
        · cases ho : okRnd A (lg A.length)
          · rw [(sb_lim hf hl ho).1] at hc; cases hc
          · have hm : i < (rnds A (lg A.length)).length := by rw [rnds_len]; exact hi
            have e : (bkList A).getD i 0 = divS ((rnds A (lg A.length)).getD i 0) (fl32 A.length) := by
              rw [(sb_yes hf hl ho).2.2, List.getD_eq_getElem?_getD, List.getElem?_map, List.getElem?_eq_getElem hm, List.getD_eq_getElem?_getD, List.getElem?_eq_getElem hm]
              rfl
            rw [e]
            obtain ⟨r, hr, hn⟩ := div_num ((rnds A (lg A.length)).getD i 0) (fl32 A.length) (notnan_fin _ (all_at (okRnd_last ho) i hm)) (fl32_any hl).1 (fl32_any hl).2
            unfold divS
            rw [hr]
            exact hn
  · rw [← gl_zero (fun _ => 0)]
    exact gl_nums _ _ (fun i hi => absurd hi (by omega))

theorem pcZ_one (n : Int) (A : List Nat) : (pic (pcS n A) (pcZ n A)).all (·.oneCell') = true := by
  unfold pcZ
  split
  · exact gl_one _ _ _
  · rw [← gl_zero (fun _ => 0)]
    exact gl_one _ _ _

set_option maxRecDepth 100000 in
set_option maxHeartbeats 3200000 in
theorem lawPictureOfSums_of (n : Int) (ad : Option Addr) (len cap : Nat) (L : List Nat) (s c : Int) (zs : Array Value) (w : World) (hA : CameF ad len L w) (hz : Nums zs) (h1 : (pic s zs).all (·.oneCell') = true)
    (HS : Hid (PicC 24 n L s zs c)) (HI : Hid (PicC 23 n L s zs c)) :
    Calls Tryd.prog 4 #[.int .i64 n, .slice ad len cap] w fun e w' => e = .returned (.bool true) ∧ Below w.heap.size w w' := by
  by_cases hbig : 1048576 < len
  · go_enter Tryd.func4, Tryd.ntmps4
    go_wp2_with fail
    go_ret
    exact ⟨rfl, Below.refl _ _⟩
  have hn : len ≤ 1048576 := by omega
  have HA := Lib.hid hA
  have HN := Lib.hid hn
  have HL := Lib.hid hA.1
  have hcc : (c != c) = false := by simp
  have hz32 := (zero_of_info info32).1
  have HE := Lib.hid (eqPic_refl s zs hz)
  have HF : Hid ((Tryd.prog.info? 41).map (·.size) = some (pic s zs).size) := Lib.hid (by rw [pic_size _ _ hz.1]; exact (zero_of_info info32).2)
  have HZF : Hid ((pic 0 zero64).size = (pic s zs).size) := Lib.hid (by rw [pic_size _ _ hz.1, pic_size 0 zero64 (by simp [zero64])])
  have H1 := Lib.hid h1
  unfold PicC at HS HI
  generalize pic 0 zero64 = Z at *
  generalize pic s zs = F at *
  clear hz h1 hA
  have BB : Hid (Below w.heap.size w w) := Lib.hid (Below.refl _ _)
  go_enter Tryd.func4, Tryd.ntmps4
  go_wp2_with fail
  refine (toF_any ad len cap L _ HA.out HN.out).mono ?_
  rintro e w1 ⟨v, rfl, o, k⟩
  obtain ⟨ap, cp, rfl, _⟩ := o.came
  have B1 := Lib.hid k
  have O1 := Lib.hid o
  clear o k BB
  go_wp2_with fail
  refine (HS.out (by rw [HL.out]; exact HN.out) _ _ (O1.out.mono (Nat.zero_le _))).mono ?_
  rintro e w2 ⟨rfl, k⟩
  have B2 : Hid (Below w.heap.size w w2) := Lib.hid (B1.out.trans (k.mono B1.out.size))
  clear k B1 O1
  have G1 : Hid ((w2.alloc (.cells Z 41)).heap[w2.heap.size]? = some (.cells Z 41)) := Lib.hid (h1_0 _ _)
  have P2 : Hid ((w2.alloc (.cells F 41)).heap[w2.heap.size]? = some (.cells F 41 (0, 0))) := Lib.hid (h1_0 _ _)
  have B3 : Hid (Below w.heap.size w (w2.alloc (.cells F 41))) := Lib.hid (B2.out.alloc B2.out.size _)
  have HGW : Hid (w.heap.size ≤ w2.heap.size) := Lib.hid B2.out.size
  go_wp2_with (first | fail | (refine wpList_store_row rfl 41 (.tmp 5) (.tmp 18) rfl w2.heap.size F rfl rfl 41 Z G1.out HF.out HZF.out H1.out ?_; rw [World.setRow_alloc_new]))
  have P3 := P2
  generalize hV : w2.alloc (.cells F 41) = V at *
  have hlt : w2.heap.size < V.heap.size := (Array.getElem?_eq_some_iff.1 P3.out).1
  have HLT := Lib.hid hlt
  clear G1 P2 B2 hV hlt
  refine (toF_any ad len cap L _ (HA.out.below B3.out (Nat.le_refl _)) HN.out).mono ?_
  rintro e w3 ⟨v, rfl, o, k⟩
  obtain ⟨ax, cx, rfl, _⟩ := o.came
  have O3 := Lib.hid o
  have P4 : Hid (w3.heap[w2.heap.size]? = some (.cells F 41 (0, 0))) := Lib.hid (by rw [k.block _ HLT.out]; exact P3.out)
  have B4 : Hid (Below w.heap.size w w3) := Lib.hid (B3.out.trans (k.mono B3.out.size))
  clear o k P3 B3
  go_wp2_with fail
  refine (HI.out (by rw [HL.out]; exact HN.out) _ _ (O3.out.mono (Nat.zero_le _))).mono ?_
  rintro e w4 ⟨rfl, k⟩
  have O4 := Lib.hid (O3.out.below k (Nat.le_refl _))
  have P5 : Hid (w4.heap[w2.heap.size]? = some (.cells F 41 (0, 0))) := Lib.hid (by rw [k.block _ (Array.getElem?_eq_some_iff.1 P4.out).1]; exact P4.out)
  have B5 : Hid (Below w.heap.size w w4) := Lib.hid (B4.out.trans (k.mono B4.out.size))
  clear k O3 P4 B4
  have G1 : Hid ((w4.alloc (.cells Z 41)).heap[w4.heap.size]? = some (.cells Z 41)) := Lib.hid (h1_0 _ _)
  have Q1 : Hid ((w4.alloc (.cells F 41)).heap[w4.heap.size]? = some (.cells F 41 (0, 0))) := Lib.hid (h1_0 _ _)
  have Q2 : Hid ((w4.alloc (.cells F 41)).heap[w2.heap.size]? = some (.cells F 41 (0, 0))) := Lib.hid (by rw [heap_alloc_old _ _ (Array.getElem?_eq_some_iff.1 P5.out).1]; exact P5.out)
  have O5 := Lib.hid (O4.out.alloc (.cells F 41))
  have B6 : Hid (Below w.heap.size w (w4.alloc (.cells F 41))) := Lib.hid (B5.out.alloc B5.out.size _)
  go_wp2_with (first | fail | (refine wpList_store_row rfl 41 (.tmp 8) (.tmp 26) rfl w4.heap.size F rfl rfl 41 Z G1.out HF.out HZF.out H1.out ?_; rw [World.setRow_alloc_new]) | (refine wpList_load_row rfl 41 (.tmp 8) rfl w4.heap.size rfl 41 F (0, 0) _ Q1.out Tryd.underlying41 rfl HF.out ?_) | (refine wpList_load_row rfl 41 (.tmp 5) rfl w2.heap.size rfl 41 F (0, 0) _ Q2.out Tryd.underlying41 rfl HF.out ?_))
  refine (HE.out _).mono ?_
  rintro e w5 ⟨rfl, k⟩
  have O6 := Lib.hid (O5.out.below k (Nat.le_refl _))
  have B7 : Hid (Below w.heap.size w w5) := Lib.hid (B6.out.trans (k.mono B6.out.size))
  clear k O5 O4 B6 B5 P5 Q1 Q2 G1
  go_wp2_with fail
  refine (toF_any ad len cap L _ (HA.out.below B7.out (Nat.le_refl _)) HN.out).mono ?_
  rintro e w6 ⟨v, rfl, o, k⟩
  obtain ⟨ay, cy, rfl, oc⟩ := o.came
  have OC := Lib.hid oc
  have O7 := Lib.hid (O6.out.below k (Nat.le_refl _))
  have B8 : Hid (Below w.heap.size w w6) := Lib.hid (B7.out.trans (k.mono B7.out.size))
  clear o k oc O6 B7
  go_wp2_with fail
  obtain ⟨_, _, e1, k1⟩ := O7.out.came
  cases e1
  refine (eqF_yes _ _ L.length _ _ L _ k1 OC.out (by rw [HL.out]; exact HN.out)).mono ?_
  clear k1
  rintro e w7 ⟨rfl, k⟩
  have B9 : Hid (Below w.heap.size w w7) := Lib.hid (B8.out.trans (k.mono B8.out.size))
  clear k
  go_wp2_with fail
  go_ret
  exact ⟨rfl, B9.out⟩

end Go.Proofs.YtclflnpbiiimiaaDoor
