/- What the law of PictureOfSums does: it returns true where program and model answer one picture and one code. Condition: these answers, no level of which is a NaN. When two pictures are equal by Go's own word. Condition: 64 floats each. The door behind which a picture is built, where nothing is not finite. Condition: none. -/
import Derived.Test.YtclflnpbiiimiaaDoorKo
import Derived.Laws.StructEq
import Derived.Test.YtclflnpbiiimiaaDoorM1
import Derived.Defers
import Derived.Recover
namespace Go.Proofs.YtclflnpbiiimiaaDoor
open Go Go.RowKit

/-- 64 floats, none a NaN -/
def Nums (zs : Array Value) : Prop := zs.size = 64 ∧ ∀ k, k < 64 → ∃ x, NotNan x ∧ zs[k]? = some (.float .f32 x)

set_option maxHeartbeats 400000 in
theorem eqFloats64 (zs : Array Value) (hz : Nums zs) (w : World) : Calls Tryd.prog 62 #[.agg zs, .agg zs] w fun e w' => e = .returned (.bool true) ∧ Below w.heap.size w w' := by
  have HZ := Lib.hid hz
  clear hz
  go_enter Tryd.func62, Tryd.ntmps62
  go_wp2
  go_loopw [5] (fun i wr => ∃ k n : Nat, k ≤ 64 ∧ i = .int .i64 k ∧ Hid (wr = ((w.alloc (.cells zs 39)).alloc (.cells zs 39)).drewN n)) (fun i _ => 64 - (intOf i).toNat)
  case atStart => exact ⟨0, 0, by omega, rfl, Lib.hid rfl⟩
  case round =>
    obtain ⟨k, n, hk, rfl, HW⟩ := hrel
    by_cases hlt : k < 64
    · obtain ⟨x, hx, hzk⟩ := HZ.out.2 k hlt
      obtain ⟨c, hc, hown⟩ := conv_notnan x hx
      have hcv := fun w => run_convert_float_float (P := Tryd.prog) w 38 85 .f32 .f64 x c (by rw [Tryd.underlying38]; rfl) Tryd.underlying85 hc
      have c1 : wr.cell? ⟨w.heap.size, k, none⟩ = some (.float .f32 x) := by
        rw [HW.out, World.cell?_drewN, cell_of_row _ _ _ zs 39 (0, 0) (h2_0 _ _ _)]; exact hzk
      have c2 : wr.cell? ⟨w.heap.size + 1, k, none⟩ = some (.float .f32 x) := by
        rw [HW.out, World.cell?_drewN, cell_of_row _ _ _ zs 39 (0, 0) (h2_1 _ _ _)]; exact hzk
      have HS := Lib.hid (sameFloat_refl c hown)
      clear hx hc hown hzk
      go_wp2_with fail
      go_quiet ((go_at_call 63; exact Calls.quiet_of_same ((HS.out _).mono fun e w' h => ⟨h.1, h.2.symm⟩)))
      go_wp2
      refine ⟨⟨k + 1, _, by omega, by go_num, Lib.hid (by rw [HW.out, World.drewN_drewN])⟩, by simp [intOf]; omega⟩
    · obtain rfl : k = 64 := by omega
      go_wp2
      go_ret
      refine ⟨rfl, ?_⟩
      rw [HW.out]
      exact below_drewN (((Below.refl _ _).alloc (Nat.le_refl _) _).alloc (by rw [size_al]; omega) _) _

set_option maxRecDepth 100000 in
set_option maxHeartbeats 400000 in
theorem eqPic_refl (n : Int) (zs : Array Value) (hz : Nums zs) (w : World) : Calls Tryd.prog 30 #[.agg (pic n zs), .agg (pic n zs)] w fun e w' => e = .returned (.bool true) ∧ Below w.heap.size w w' := by
  have h0 := pic_zero n zs
  have HP := Lib.hid (pic_part n zs)
  have HS : Hid ((Tryd.prog.info? 39).map (·.size) = some zs.size) := Lib.hid (by rw [hz.1]; exact size28)
  have HE := Lib.hid (eqFloats64 zs hz)
  have hnn : (n != n) = false := by simp
  generalize pic n zs = cs at *
  clear hz
  go_enter Tryd.func30, Tryd.ntmps30
  go_wp2_with (first | fail | (refine wpList_load_part rfl 39 (.tmp 10) rfl w.heap.size 1 rfl zs _ 41 cs (0, 0) (h2_0 _ _ _) HP.out Tryd.underlying39 rfl HS.out ?_) | (refine wpList_load_part rfl 39 (.tmp 12) rfl (w.heap.size + 1) 1 rfl zs _ 41 cs (0, 0) (h2_1 _ _ _) HP.out Tryd.underlying39 rfl HS.out ?_))
  refine (HE.out _).mono ?_
  rintro e w1 ⟨rfl, b1⟩
  have B1 := Lib.hid b1
  clear b1
  go_wp2
  go_ret
  refine ⟨rfl, ((((Below.refl _ _).alloc (Nat.le_refl _) _).alloc (by rw [size_al]; omega) _).trans (B1.out.mono ?_))⟩
  rw [size_al, size_al]; omega

theorem gl_nums (F : Nat → Nat) (k : Nat) (h : ∀ i, i < k → NotNan (F i)) : Nums (gl F k) := by
  refine ⟨gl_size F k, fun i hi => ?_⟩
  rw [gl_get, if_pos hi]
  by_cases h1 : i < k
  · exact ⟨_, h i h1, by rw [if_pos h1]⟩
  · exact ⟨0, notnan_fin 0 (by decide), by rw [if_neg h1]⟩
theorem mx2_num (x : Nat) (h : NotNan x) : NotNan (mx2 x 0) := by
  have h0 : NotNan 0 := notnan_fin 0 (by decide)
  unfold mx2
  split
  · exact h0
  · exact h
  · split
    · exact h0
    · exact h
  · exact h0
theorem pcZ_nums (n : Int) (A : List Nat) : Nums (pcZ n A) := by
  unfold pcZ
  split
  · rename_i hc
    refine gl_nums _ _ (fun i hi => mx2_num _ ?_)
    unfold pcC at hc
    split at hc
    · cases hc
    · rename_i hf
      have hf : A.all fin = true := by
        cases h : A.all fin
        · exact absurd h hf
        · rfl
      split at hc
      · cases hc
      · cases hl : lenI (A.length : Int)
        · rw [(sb_len hf hl).1] at hc; cases hc
        · cases ho : okRnd A (lg A.length)
          · rw [(sb_lim hf hl ho).1] at hc; cases hc
          · have hm : i < (rnds A (lg A.length)).length := by rw [rnds_len]; exact hi
            have e : (bkList A).getD i 0 = divS ((rnds A (lg A.length)).getD i 0) (fl32 A.length) := by
              rw [(sb_yes hf hl ho).2.2, List.getD_eq_getElem?_getD, List.getElem?_map, List.getElem?_eq_getElem hm, List.getD_eq_getElem?_getD, List.getElem?_eq_getElem hm]
              rfl
            rw [e]
            obtain ⟨r, hr, hn⟩ := div_num ((rnds A (lg A.length)).getD i 0) (fl32 A.length) (notnan_fin _ (all_at (okRnd_last ho) i hm)) (fl32_any hl).1 (fl32_any hl).2
            unfold divS
            rw [hr]
            exact hn
  · rw [← gl_zero (fun _ => 0)]
    exact gl_nums _ _ (fun i hi => absurd hi (by omega))

theorem pcZ_one (n : Int) (A : List Nat) : (pic (pcS n A) (pcZ n A)).all (·.oneCell') = true := by
  unfold pcZ
  split
  · exact gl_one _ _ _
  · rw [← gl_zero (fun _ => 0)]
    exact gl_one _ _ _

set_option maxRecDepth 100000 in
set_option maxHeartbeats 3200000 in
theorem lawPictureOfSums_of (n : Int) (ad : Option Addr) (len cap : Nat) (L : List Nat) (s c : Int) (zs : Array Value) (w : World) (hA : CameF ad len L w) (hz : Nums zs) (h1 : (pic s zs).all (·.oneCell') = true)
    (HS : Hid (PicC 24 n L s zs c)) (HI : Hid (PicC 23 n L s zs c)) :
    Calls Tryd.prog 4 #[.int .i64 n, .slice ad len cap] w fun e w' => e = .returned (.bool true) ∧ Below w.heap.size w w' := by
  by_cases hbig : 1048576 < len
  · go_enter Tryd.func4, Tryd.ntmps4
    go_wp2_with fail
    go_ret
    exact ⟨rfl, Below.refl _ _⟩
  have hn : len ≤ 1048576 := by omega
  have HA := Lib.hid hA
  have HN := Lib.hid hn
  have HL := Lib.hid hA.1
  have hcc : (c != c) = false := by simp
  have hz32 := (zero_of_info info32).1
  have HE := Lib.hid (eqPic_refl s zs hz)
  have HF : Hid ((Tryd.prog.info? 41).map (·.size) = some (pic s zs).size) := Lib.hid (by rw [pic_size _ _ hz.1]; exact (zero_of_info info32).2)
  have HZF : Hid ((pic 0 zero64).size = (pic s zs).size) := Lib.hid (by rw [pic_size _ _ hz.1, pic_size 0 zero64 (by simp [zero64])])
  have H1 := Lib.hid h1
  unfold PicC at HS HI
  generalize pic 0 zero64 = Z at *
  generalize pic s zs = F at *
  clear hz h1 hA
  have BB : Hid (Below w.heap.size w w) := Lib.hid (Below.refl _ _)
  go_enter Tryd.func4, Tryd.ntmps4
  go_wp2_with fail
  refine (toF_any ad len cap L _ HA.out HN.out).mono ?_
  rintro e w1 ⟨v, rfl, o, k⟩
  obtain ⟨ap, cp, rfl, _⟩ := o.came
  have B1 := Lib.hid k
  have O1 := Lib.hid o
  clear o k BB
  go_wp2_with fail
  refine (HS.out (by rw [HL.out]; exact HN.out) _ _ (O1.out.mono (Nat.zero_le _))).mono ?_
  rintro e w2 ⟨rfl, k⟩
  have B2 : Hid (Below w.heap.size w w2) := Lib.hid (B1.out.trans (k.mono B1.out.size))
  clear k B1 O1
  have G1 : Hid ((w2.alloc (.cells Z 41)).heap[w2.heap.size]? = some (.cells Z 41)) := Lib.hid (h1_0 _ _)
  have P2 : Hid ((w2.alloc (.cells F 41)).heap[w2.heap.size]? = some (.cells F 41 (0, 0))) := Lib.hid (h1_0 _ _)
  have B3 : Hid (Below w.heap.size w (w2.alloc (.cells F 41))) := Lib.hid (B2.out.alloc B2.out.size _)
  have HGW : Hid (w.heap.size ≤ w2.heap.size) := Lib.hid B2.out.size
  go_wp2_with (first | fail | (refine wpList_store_row rfl 41 (.tmp 5) (.tmp 18) rfl w2.heap.size F rfl rfl 41 Z G1.out HF.out HZF.out H1.out ?_; rw [World.setRow_alloc_new]))
  have P3 := P2
  generalize hV : w2.alloc (.cells F 41) = V at *
  have hlt : w2.heap.size < V.heap.size := (Array.getElem?_eq_some_iff.1 P3.out).1
  have HLT := Lib.hid hlt
  clear G1 P2 B2 hV hlt
  refine (toF_any ad len cap L _ (HA.out.below B3.out (Nat.le_refl _)) HN.out).mono ?_
  rintro e w3 ⟨v, rfl, o, k⟩
  obtain ⟨ax, cx, rfl, _⟩ := o.came
  have O3 := Lib.hid o
  have P4 : Hid (w3.heap[w2.heap.size]? = some (.cells F 41 (0, 0))) := Lib.hid (by rw [k.block _ HLT.out]; exact P3.out)
  have B4 : Hid (Below w.heap.size w w3) := Lib.hid (B3.out.trans (k.mono B3.out.size))
  clear o k P3 B3
  go_wp2_with fail
  refine (HI.out (by rw [HL.out]; exact HN.out) _ _ (O3.out.mono (Nat.zero_le _))).mono ?_
  rintro e w4 ⟨rfl, k⟩
  have O4 := Lib.hid (O3.out.below k (Nat.le_refl _))
  have P5 : Hid (w4.heap[w2.heap.size]? = some (.cells F 41 (0, 0))) := Lib.hid (by rw [k.block _ (Array.getElem?_eq_some_iff.1 P4.out).1]; exact P4.out)
  have B5 : Hid (Below w.heap.size w w4) := Lib.hid (B4.out.trans (k.mono B4.out.size))
  clear k O3 P4 B4
  have G1 : Hid ((w4.alloc (.cells Z 41)).heap[w4.heap.size]? = some (.cells Z 41)) := Lib.hid (h1_0 _ _)
  have Q1 : Hid ((w4.alloc (.cells F 41)).heap[w4.heap.size]? = some (.cells F 41 (0, 0))) := Lib.hid (h1_0 _ _)
  have Q2 : Hid ((w4.alloc (.cells F 41)).heap[w2.heap.size]? = some (.cells F 41 (0, 0))) := Lib.hid (by rw [heap_alloc_old _ _ (Array.getElem?_eq_some_iff.1 P5.out).1]; exact P5.out)
  have O5 := Lib.hid (O4.out.alloc (.cells F 41))
  have B6 : Hid (Below w.heap.size w (w4.alloc (.cells F 41))) := Lib.hid (B5.out.alloc B5.out.size _)
  go_wp2_with (first | fail | (refine wpList_store_row rfl 41 (.tmp 8) (.tmp 26) rfl w4.heap.size F rfl rfl 41 Z G1.out HF.out HZF.out H1.out ?_; rw [World.setRow_alloc_new]) | (refine wpList_load_row rfl 41 (.tmp 8) rfl w4.heap.size rfl 41 F (0, 0) _ Q1.out Tryd.underlying41 rfl HF.out ?_) | (refine wpList_load_row rfl 41 (.tmp 5) rfl w2.heap.size rfl 41 F (0, 0) _ Q2.out Tryd.underlying41 rfl HF.out ?_))
  refine (HE.out _).mono ?_
  rintro e w5 ⟨rfl, k⟩
  have O6 := Lib.hid (O5.out.below k (Nat.le_refl _))
  have B7 : Hid (Below w.heap.size w w5) := Lib.hid (B6.out.trans (k.mono B6.out.size))
  clear k O5 O4 B6 B5 P5 Q1 Q2 G1
  go_wp2_with fail
  refine (toF_any ad len cap L _ (HA.out.below B7.out (Nat.le_refl _)) HN.out).mono ?_
  rintro e w6 ⟨v, rfl, o, k⟩
  obtain ⟨ay, cy, rfl, oc⟩ := o.came
  have OC := Lib.hid oc
  have O7 := Lib.hid (O6.out.below k (Nat.le_refl _))
  have B8 : Hid (Below w.heap.size w w6) := Lib.hid (B7.out.trans (k.mono B7.out.size))
  clear o k oc O6 B7
  go_wp2_with fail
  obtain ⟨_, _, e1, k1⟩ := O7.out.came
  cases e1
  refine (eqF_yes _ _ L.length _ _ L _ k1 OC.out (by rw [HL.out]; exact HN.out)).mono ?_
  clear k1
  rintro e w7 ⟨rfl, k⟩
  have B9 : Hid (Below w.heap.size w w7) := Lib.hid (B8.out.trans (k.mono B8.out.size))
  clear k
  go_wp2_with fail
  go_ret
  exact ⟨rfl, B9.out⟩

end Go.Proofs.YtclflnpbiiimiaaDoor

namespace Go.Proofs.YtclflnpbiiimiaaDoor
open Go Go.RowKit Ieee

theorem run_partFl (zs : Array Value) (i x : Nat) (h : zs[i]? = some (.float .f32 x)) (w : World) : (part 38 zs (i * 1)).run Tryd.prog w = .ok (.float .f32 x) w := by
  have a := Tryd.isAgg38
  simp [part, a, h]
theorem run_eqFl (d x a : Nat) (w : World) : (Op.equalIn (d + 1) 38 (.float .f32 x) (.float .f32 a)).run Tryd.prog w = .ok (Op.floatEq .f32 x a) w := by
  simp [Op.equalIn, run_underlying Tryd.underlying38]
theorem run_eqAF (zs ys : Array Value) (E : Nat → Bool) (h : ∀ k, k < 64 → ∃ x a, zs[k]? = some (.float .f32 x) ∧ ys[k]? = some (.float .f32 a) ∧ Op.floatEq .f32 x a = E k) (d : Nat) (w : World) :
    (Op.equalIn (d + 2) 39 (.agg zs) (.agg ys)).run Tryd.prog w = .ok ((List.range' 0 64).all E) w := by
  have z := Tryd.sizeOf38
  rw [Op.equalIn]
  simp only [Sem.run_bind, run_underlying Tryd.underlying39, Result.andThen_ok, z, Std.Legacy.Range.forIn_eq_forIn_range', Std.Legacy.Range.size, Nat.sub_zero, Nat.add_sub_cancel, Nat.div_one]
  have hl : ∀ i ∈ List.range' 0 64, i < 64 := by simp
  generalize List.range' 0 64 = l at *
  induction l with
  | nil => simp
  | cons i l ih =>
    obtain ⟨x, a, hx, hy, hE⟩ := h i (hl i (by simp))
    have ih' := ih (fun j hj => hl j (by simp [hj]))
    simp only [List.forIn_cons, Sem.run_bind, run_partFl zs i x hx, run_partFl ys i a hy, Result.andThen_ok, run_eqFl, hE, List.all_cons]
    cases E i
    · simp
    · simpa using ih'
theorem run_partP (D : Array Value) (w : World) : (part 39 D 1).run Tryd.prog w = .ok (.agg (D.extract 1 65)) w := by
  have a := Tryd.isAgg39
  have z := Tryd.sizeOf39
  simp [part, a, z]
theorem pic_ext (s : Int) (zs : Array Value) (h : zs.size = 64) : (pic s zs).extract 1 65 = zs := by
  apply Array.ext_getElem?
  intro i
  by_cases hi : i < 64
  · rw [Array.getElem?_extract, if_pos (by rw [pic_size _ _ h]; omega), Nat.add_comm, pic_succ]
  · rw [Array.getElem?_eq_none (by rw [Array.size_extract, pic_size _ _ h]; omega), Array.getElem?_eq_none (by omega)]
theorem run_eqP (s : Int) (zs ys : Array Value) (hz : zs.size = 64) (hy : ys.size = 64) (E : Nat → Bool)
    (h : ∀ k, k < 64 → ∃ x a, zs[k]? = some (.float .f32 x) ∧ ys[k]? = some (.float .f32 a) ∧ Op.floatEq .f32 x a = E k) (w : World) :
    (Op.equalIn 10000 41 (.agg (pic s zs)) (.agg (pic s ys))).run Tryd.prog w = .ok ((List.range' 0 64).all E) w := by
  have hS : Tryd.prog.underlying 41 = some (.struct (Tryd.prog.fieldsOf 41)) := by kernel_rfl
  have hp : Tryd.prog.stoodInHeld 41 = false := by kernel_rfl
  rw [show (10000 : Nat) = 9999 + 1 from rfl, run_equalIn_agg w 9999 41 _ _ hS hp]
  have p1 : ∀ (zs : Array Value), ∀ w : World, (part 2 (pic s zs) 0).run Tryd.prog w = .ok (.int .i64 s) w := by
    intro zs w
    have a := Tryd.isAgg2
    simp [part, a, pic_zero]
  have q1 := p1 zs
  have q2 := p1 ys
  have e1 := fun w => run_equalIn_int (P := Tryd.prog) w 9998 2 .i64 .i64 s s Tryd.underlying2
  have e2 := run_eqAF zs ys E h 9997
  have p2 := run_partP (pic s zs)
  have p3 := run_partP (pic s ys)
  rw [pic_ext s zs hz] at p2
  rw [pic_ext s ys hy] at p3
  simp only [Program.fieldsOf, Tryd.underlying41]
  simp only [Op.eqFields, Sem.run_bind, Sem.run_ite, q1, q2, p2, p3, e1, e2, Result.andThen_ok]
  simp only [beq_self_eq_true, Bool.not_true, Bool.false_eq_true, if_false, ne_eq, show ¬ ("Side" : String) = "_" by decide, show ¬ ("Levels" : String) = "_" by decide, not_false_eq_true, if_true]
  cases (List.range' 0 64).all E <;> rfl

theorem notnan_self (x : Nat) (h : NotNan x) : Op.floatEq .f32 x x = true := by
  have := same_notnan x h
  unfold Op.floatEq
  simpa using this
/-- a picture of numbers is no other than itself -/
theorem neqP_self (s : Int) (zs : Array Value) (h : Nums zs) (w : World) : (binOp .neq 41 (.agg (pic s zs)) (.agg (pic s zs))).run Tryd.prog w = .ok (.bool false) w := by
  rw [run_neq_struct, run_eqP s zs zs h.1 h.1 (fun _ => true) (fun k hk => by
    obtain ⟨x, hx, hz⟩ := h.2 k hk
    exact ⟨x, x, hz, hz, notnan_self x hx⟩) w]
  simp
/-- pictures whose levels are equal are equal -/
theorem eqlP_of (s : Int) (zs ys : Array Value) (hz : zs.size = 64) (hy : ys.size = 64) (h : ∀ k, k < 64 → ∃ x a, zs[k]? = some (.float .f32 x) ∧ ys[k]? = some (.float .f32 a) ∧ (FloatKind.f32.format.order x a == some .eq) = true) (w : World) :
    (binOp .eql 41 (.agg (pic s zs)) (.agg (pic s ys))).run Tryd.prog w = .ok (.bool true) w := by
  rw [run_eql_struct, run_eqP s zs ys hz hy (fun _ => true) (fun k hk => by
    obtain ⟨x, a, hx, ha, he⟩ := h k hk
    exact ⟨x, a, hx, ha, he⟩) w]
  simp

end Go.Proofs.YtclflnpbiiimiaaDoor

namespace Go.Proofs.YtclflnpbiiimiaaDoor
open Go Go.RowKit

theorem finNum10 (x : Nat) (hf : fin x = true) (w : World) : Calls Tryd.prog 79 #[.float .f32 x] w fun e w' => e = .returned (.float .f32 x) ∧ ∃ n, w' = w.drewN n := by
  go_enter Tryd.func79, Tryd.ntmps79
  go_wp2_with (go_at_call 57; refine (finite_any _ _).mono ?_; rw [hf]; rintro e w' ⟨rfl, n', rfl⟩)
  go_ret
  exact ⟨rfl, _, rfl⟩

/-- the code goes on, in that world -/
def EndsAt (v : World) : Exit → Act → World → Prop := fun e a' w' => e = .normal ∧ a'.defers = [] ∧ w' = v
theorem wpS_ends {P : Program} {c : Code} {Q : Exit → Act → List Frame → World → Prop} {a : Act} {cs : List Frame} {w v : World} (h : c.wp P (EndsAt v) a w) (hq : ∀ a', a'.defers = [] → Q .normal a' cs v) : c.wpS P Q a cs w :=
  wpS_of_wp fun b k cs' => by
    obtain ⟨e, a', w', ⟨rfl, hd, rfl⟩, r⟩ := h b k cs'
    exact ⟨_, _, _, hq a' hd, r⟩
theorem nilErr (xT : TypeId) (w : World) : (Instr.typeAssert .nilIface xT 108 true).run Tryd.prog w = .ok (.tuple #[.nilIface, .bool false]) w := by kernel_rfl

set_option maxRecDepth 100000 in
theorem catchP_idle (p : Addr) (w : World) :
    CallsD Tryd.prog 86 #[.pointer (some p)] .returning w fun e u' w' =>
      e = .returned (.tuple #[]) ∧ u' = .returning ∧ w' = w := by
  have hA := nilErr
  refine callsD_of_wpS Tryd.func86 rfl fun c₀ cs hu => ?_
  apply wpS_seq
  apply wpS_region
  simp [wpOpsS, go_sem, recoverD, hu, Tryd.ntmps86, Exit.thenS, hA]
  refine wpS_ends (v := w) ?_ ?_
  · have hT : (#[Value.pointer (some p)] ++ (((((((Array.replicate 13 undef).setIfInBounds 3 .nilIface).setIfInBounds 4 (.tuple #[.nilIface, .bool false])).setIfInBounds 2 (.tuple #[.nilIface, .bool false])).setIfInBounds 5 .nilIface).setIfInBounds 6 (.bool false)).setIfInBounds 0 .nilIface).setIfInBounds 1 (.bool false)) = #[.pointer (some p), .nilIface, .bool false, .tuple #[.nilIface, .bool false], .nilIface, .tuple #[.nilIface, .bool false], .nilIface, .bool false, undef, undef, undef, undef, undef, undef] := by kernel_rfl
    rw [hT]
    clear hT hu hA
    go_wp2
    exact ⟨rfl, rfl, rfl⟩
  · intro a' hd
    refine ⟨hd, .returning, ?_, .tuple #[], by simp [results, Tryd.results86], rfl, rfl, rfl⟩
    cases c₀
    simp_all

set_option maxRecDepth 100000 in
set_option maxHeartbeats 400000 in
/-- the walk behind the door returns a row -/
theorem doorP_yes (f : FuncId) (c1 c2 : Value) (C : Array Value) (w : World) (hF : ∀ v, (callFunc f #[c1, c2]).run Tryd.prog v = .ok (.enter f #[c1, c2]) v)
    (HW : Hid (∀ v, Below w.heap.size w v → Calls Tryd.prog f #[c1, c2] v fun e w' => e = .returned (.agg C) ∧ Below v.heap.size v w')) (hC1 : C.all (·.oneCell') = true) (hCs : C.size = 65) :
    Calls Tryd.prog 77 #[.func (.func f) #[] #[c1, c2]] w fun e w' => e = .returned (.tuple #[.agg C, .int .i64 0]) ∧ Below w.heap.size w w' := by
  have hz32 := (zero_of_info info32).1
  have HS32 := Lib.hid (zero_of_info info32).2
  have HZ32 : Hid ((pic 0 zero64).size = 65) := Lib.hid (pic_size 0 zero64 (by simp [zero64]))
  have hne : ¬ pic 0 zero64 = #[] := fun e => by
    have := congrArg Array.size e
    rw [HZ32.out] at this
    simp at this
  generalize pic 0 zero64 = Z at *
  have HCI : Hid ((Tryd.prog.info? 41).map (·.size) = some C.size) := Lib.hid (by rw [hCs]; exact HS32.out)
  have HZC : Hid (Z.size = C.size) := Lib.hid (by rw [hCs, HZ32.out])
  have HC1 := Lib.hid hC1
  clear hC1 hCs
  have hmf : ∀ (fn : Fn) (first cap : Array Value) (w : World), (Instr.makeFunc fn first cap).run Tryd.prog w = .ok (.func fn first cap) w := fun _ _ _ _ => rfl
  go_enter_defers Tryd.func77, Tryd.ntmps77
  go_wp2_with fail
  have B0 : Below w.heap.size w ((w.alloc (.cells Z 41)).alloc (.cells #[.int .i64 5] 2)) := ((Below.refl _ _).alloc (Nat.le_refl _) _).alloc (by simp) _
  refine (HW.out _ B0).mono ?_
  rintro e w1 ⟨rfl, b1⟩
  have R1 : Hid (w1.heap[w.heap.size]? = some (.cells Z 41 (0, 0))) := Lib.hid (by rw [b1.block _ (by simp; omega), heap_alloc_old _ _ (by rw [size_al]; omega)]; exact h1_0 _ _)
  have C1 : Hid (w1.heap[w.heap.size + 1]? = some (.cells #[.int .i64 5] 2 (0, 0))) := Lib.hid (by rw [b1.block _ (by simp)]; exact h2_1 _ _ _)
  have B1 : Hid (Below w.heap.size w w1) := Lib.hid (B0.trans (b1.mono (by simp; omega)))
  clear b1 B0 HW hF hmf hz32 hne
  have C2 : Hid ((w1.setRow w.heap.size C).heap[w.heap.size + 1]? = some (.cells #[.int .i64 5] 2 (0, 0))) := Lib.hid (by rw [setRow_other _ _ _ _ (by omega)]; exact C1.out)
  have hc : (w1.setRow w.heap.size C).cell? ⟨w.heap.size + 1, 0, none⟩ = some (.int .i64 5) := by rw [cell_of_row _ _ _ _ _ _ C2.out]; rfl
  have hz : (w1.setRow w.heap.size C).frozen? ⟨w.heap.size + 1, 0, none⟩ = false := frozen_of_row _ _ _ _ _ C2.out
  go_wp2_with (refine wpList_store_row rfl 41 (.tmp 2) (.tmp 6) rfl w.heap.size C rfl rfl 41 Z R1.out HCI.out HZC.out HC1.out ?_)
  refine leaves_cons (f := 86) (args := #[.pointer (some ⟨w.heap.size + 1, 0, none⟩)]) (by simp) (by simp [go_sem]) ?_
  refine (catchP_idle ⟨w.heap.size + 1, 0, none⟩ _).mono ?_
  rintro e u' w'' ⟨rfl, rfl, rfl⟩
  have hs := heap_setCell_same (w1.setRow w.heap.size C) (w.heap.size + 1) 0 _ _ (.int .i64 0) C2.out
  have hs2 : ((w1.setRow w.heap.size C).setCell ⟨w.heap.size + 1, 0, none⟩ (.int .i64 0)).cell? ⟨w.heap.size + 1, 0, none⟩ = some (.int .i64 0) := by rw [cell_of_row _ _ _ _ _ _ hs]; rfl
  have hg : ((w1.setRow w.heap.size C).setCell ⟨w.heap.size + 1, 0, none⟩ (.int .i64 0)).heap[w.heap.size]? = some (.cells C 41 (0, 0)) := by rw [heap_setCell_other _ _ _ _ (by show w.heap.size ≠ w.heap.size + 1; omega)]; exact setRow_heap _ _ _ _ _ _ R1.out
  refine ⟨.tuple #[.agg C, .int .i64 0], ?_, rfl, (below_setRow B1.out (Nat.le_refl _) _).setCell (p := ⟨w.heap.size + 1, 0, none⟩) (by show w.heap.size ≤ w.heap.size + 1; omega) _⟩
  simp [results, Tryd.results77, asAddr, run_loadVar_row _ w.heap.size _ _ _ _ _ hg Tryd.underlying41 rfl HCI.out]
  simp [go_sem, hs2]

end Go.Proofs.YtclflnpbiiimiaaDoor
