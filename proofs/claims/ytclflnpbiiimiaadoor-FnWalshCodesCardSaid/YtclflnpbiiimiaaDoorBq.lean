/- Quotients by powers of two stay finite; and the levels that the program tells of sums. Condition: none. -/
import Derived.Test.YtclflnpbiiimiaaDoorBp
import Derived.Test.YtclflnpbiiimiaaDoorM15
namespace Go.Proofs.YtclflnpbiiimiaaDoor
open Go Go.RowKit Ieee

theorem div_pow2 (x y i : Nat) (hx : fin x = true) (hr : single.read y = .number false 8388608 (-(i : Int))) (hi : i ≤ 23) : ∃ r, single.div x y = some r ∧ fin r = true := by
  obtain ⟨s, m, p, hq, hm, hp1, hp2⟩ := fin_read x hx
  have ln : Nat.log2 8388608 = 23 := by decide +kernel
  have lm : m.log2 ≤ 23 := by
    rcases Nat.eq_zero_or_pos m with e | e
    · subst e; decide
    · have := (Nat.log2_lt (n := m) (k := 24) (by omega)).2 (by omega)
      omega
  unfold Format.div
  rw [hq, hr]
  have hdig : single.fractionBits + 2 = 25 := rfl
  simp only [Datum.quotient, show ¬ (8388608 : Nat) = 0 by omega, if_false, Option.map_some, Format.write, hdig, Option.some.injEq, exists_eq_left', ln]
  generalize m.log2 = l at *
  obtain ⟨k, hk⟩ : ∃ k, k + l = 25 := ⟨25 - l, by omega⟩
  rw [show 25 + 23 - l = k + 23 by omega]
  have e1 : m <<< (k + 23) = m * 2 ^ k * 8388608 := by
    rw [Nat.shiftLeft_eq, Nat.pow_add, ← Nat.mul_assoc]
  rw [e1, Nat.mul_div_cancel _ (by decide), Nat.mul_mod_left]
  have hb : ((0 : Nat) != 0).toNat = 0 := rfl
  rw [hb]
  refine nf_fin _ _ (104 - (p - -(i : Int) - ((k + 23 : Nat) : Int) - 1)).toNat _ (by omega) ?_
  have h3 : m * 2 ^ k ≤ 16777215 * 2 ^ k := Nat.mul_le_mul_right _ (by omega)
  have h4 : 2 ^ (k + 1) ≤ 2 ^ (104 - (p - -(i : Int) - ((k + 23 : Nat) : Int) - 1)).toNat := Nat.pow_le_pow_right (by omega) (by omega)
  have h5 : 2 ^ (k + 1) = 2 * 2 ^ k := by rw [Nat.pow_succ]; omega
  generalize 2 ^ (104 - (p - -(i : Int) - ((k + 23 : Nat) : Int) - 1)).toNat = E at *
  generalize 2 ^ (k + 1) = E2 at *
  generalize 2 ^ k = E1 at *
  generalize m * E1 = Z at *
  have : 16777215 * E2 ≤ 16777215 * E := Nat.mul_le_mul_left _ h4
  omega

theorem fl32_read {n : Nat} (h : lenI (n : Int) = true) : ∃ i : Nat, i ≤ 23 ∧ single.read (fl32 n) = .number false 8388608 (-(i : Int)) := by
  rcases lenI_yes h with e | e | e | e | e | e | e
  · obtain rfl : n = 1 := by omega
    exact ⟨23, by decide, by decide +kernel⟩
  · obtain rfl : n = 2 := by omega
    exact ⟨22, by decide, by decide +kernel⟩
  · obtain rfl : n = 4 := by omega
    exact ⟨21, by decide, by decide +kernel⟩
  · obtain rfl : n = 8 := by omega
    exact ⟨20, by decide, by decide +kernel⟩
  · obtain rfl : n = 16 := by omega
    exact ⟨19, by decide, by decide +kernel⟩
  · obtain rfl : n = 32 := by omega
    exact ⟨18, by decide, by decide +kernel⟩
  · obtain rfl : n = 64 := by omega
    exact ⟨17, by decide, by decide +kernel⟩
theorem divS_fin (x n : Nat) (hx : fin x = true) (h : lenI (n : Int) = true) : fin (divS x (fl32 n)) = true := by
  obtain ⟨i, hi, hr⟩ := fl32_read h
  obtain ⟨r, e, hf⟩ := div_pow2 x (fl32 n) i hx hr hi
  unfold divS
  rw [e]
  exact hf
theorem mx2_fin (x : Nat) (h : fin x = true) : fin (mx2 x 0) = true := by
  unfold mx2
  split
  · decide
  · exact h
  · split
    · decide
    · exact h
  · decide

theorem topP_any (B i n cap x : Nat) (b off : Nat) (w : World) (hi : i < n) (hB : w.cell? ⟨B, 0, none⟩ = some (.slice (some ⟨b, off, none⟩) n cap)) (hx : w.cell? ⟨b, off + i, none⟩ = some (.float .f32 x)) (hn : NotNan x) :
    Calls Tryd.prog 61 (#[.int .i64 (i : Int)] ++ #[.pointer (some ⟨B, 0, none⟩)]) w fun e w' => e = .returned (.float .f32 (mx2 x 0)) ∧ w = w' := by
  have hmax := fun ts t w => run_max0 x hn ts t w
  go_enter Tryd.func61, Tryd.ntmps61
  go_wp2
  go_ret
  exact ⟨rfl, rfl⟩

set_option maxRecDepth 100000 in
set_option maxHeartbeats 800000 in
theorem buildPic_any (s N : Nat) (hN : N = s * s) (h64 : s ≤ 8 ∧ N ≤ 64) (F : Nat → Nat) (hF : ∀ i, i < N → fin (F i) = true) (g : Nat) (lb : Array Value) (hg : ∀ (j : Int) v, (callFunc g (#[.int .i64 j] ++ lb)).run Tryd.prog v = .ok (.enter g (#[.int .i64 j] ++ lb)) v)
    (w : World) (hT : ∀ i, i < N → ∀ W, Below w.heap.size w W → Calls Tryd.prog g (#[.int .i64 (i : Int)] ++ lb) W fun e W' => e = .returned (.float .f32 (F i)) ∧ W = W') :
    Calls Tryd.prog 60 #[.int .i64 s, .func (.func g) #[] lb] w fun e w' => e = .returned (.tuple #[.agg (pic s (gl F N)), .int .i64 0]) ∧ Below w.heap.size w w' := by
  have hz32 := (zero_of_info info32).1
  have HS32 := Lib.hid (zero_of_info info32).2
  have HZ32 : Hid ((pic 0 zero64).size = 65) := Lib.hid (pic_size 0 zero64 (by simp [zero64]))
  have hne : ¬ pic 0 zero64 = #[] := fun e => by
    have := congrArg Array.size e
    rw [HZ32.out] at this
    simp at this
  have HPS : Hid ((pic s (gl F N)).size = 65) := Lib.hid (pic_size _ _ (gl_size F N))
  have HP1 : Hid ((pic s (gl F N)).all (·.oneCell') = true) := Lib.hid (gl_one s F N)
  have HB : Hid (∀ Bn Bf (w : World), w.cell? ⟨Bn, 0, none⟩ = some (.int .i64 s) → w.cell? ⟨Bf, 0, none⟩ = some (.func (.func g) #[] lb) → (∀ i, i < N → ∀ W, Below w.heap.size w W → Calls Tryd.prog g (#[.int .i64 (i : Int)] ++ lb) W fun e W' => e = .returned (.float .f32 (F i)) ∧ W = W') → Calls Tryd.prog 78 #[.pointer (some ⟨Bn, 0, none⟩), .pointer (some ⟨Bf, 0, none⟩)] w fun e w' => e = .returned (.agg (pic s (gl F N))) ∧ Below w.heap.size w w') := Lib.hid (fun Bn Bf w h1 h2 h3 => buildP_any s N hN h64 F hF g lb hg Bn Bf w h1 h2 h3)
  generalize pic s (gl F N) = C at *
  generalize pic 0 zero64 = Z at *
  have HT := Lib.hid hT
  clear hT hF hN
  have bN := Boxed.new w 2 (.int .i64 s)
  have bF := Boxed.new (w.alloc (.cells #[.int .i64 s] 2)) 79 (.func (.func g) #[] lb)
  rw [World.size_alloc] at bF
  have B1 : Below w.heap.size w (((w.alloc (.cells #[.int .i64 s] 2)).alloc (.cells #[.func (.func g) #[] lb] 79)).alloc (.cells Z 41)) := (((Below.refl _ w).alloc (Nat.le_refl _) _).alloc (by simp) _).alloc (by simp; omega) _
  have k1 := ((bN.alloc (.cells #[.func (.func g) #[] lb] 79)).alloc (.cells Z 41)).cell
  have k2 := (bF.alloc (.cells Z 41)).cell
  have G0 : Hid ((((w.alloc (.cells #[.int .i64 s] 2)).alloc (.cells #[.func (.func g) #[] lb] 79)).alloc (.cells Z 41)).heap[w.heap.size + 2]? = some (.cells Z 41 (0, 0))) := Lib.hid (by
    have := heap_alloc_new ((w.alloc (.cells #[.int .i64 s] 2)).alloc (.cells #[.func (.func g) #[] lb] 79)) (.cells Z 41)
    rwa [size_al, size_al] at this)
  have HDO : Hid (∀ u, u = (((w.alloc (.cells #[.int .i64 s] 2)).alloc (.cells #[.func (.func g) #[] lb] 79)).alloc (.cells Z 41)) → Calls Tryd.prog 77 #[.func (.func 78) #[] #[.pointer (some ⟨w.heap.size, 0, none⟩), .pointer (some ⟨w.heap.size + 1, 0, none⟩)]] u fun e w' => e = .returned (.tuple #[.agg C, .int .i64 0]) ∧ Below u.heap.size u w') := Lib.hid (fun u hu => by
    rw [← hu] at k1 k2 B1
    exact doorP_yes 78 (.pointer (some ⟨w.heap.size, 0, none⟩)) (.pointer (some ⟨w.heap.size + 1, 0, none⟩)) C u (fun v => by simp [go_sem]) (Lib.hid fun x hx => HB.out w.heap.size (w.heap.size + 1) x
      ((hx.cell (p := ⟨w.heap.size, 0, none⟩) (World.block_lt_of_cell? u _ k1)).trans k1)
      ((hx.cell (p := ⟨w.heap.size + 1, 0, none⟩) (World.block_lt_of_cell? u _ k2)).trans k2)
      (fun i hi W hW => HT.out i hi W ((B1.trans (hx.mono B1.size)).trans (hW.mono (Nat.le_trans B1.size hx.size))))) HP1.out HPS.out)
  have HB1 := Lib.hid B1
  clear k1 k2 bN bF HB HT B1
  have hmf : ∀ (fn : Fn) (first cap : Array Value) (w : World), (Instr.makeFunc fn first cap).run Tryd.prog w = .ok (.func fn first cap) w := fun _ _ _ _ => rfl
  go_enter Tryd.func60, Tryd.ntmps60
  go_wp2_with fail
  refine (HDO.out _ rfl).mono ?_
  rintro e w1 ⟨rfl, hb⟩
  generalize ((w.alloc (.cells #[.int .i64 s] 2)).alloc (.cells #[.func (.func g) #[] lb] 79)).alloc (.cells Z 41) = u at *
  have G1 : Hid (w1.heap[w.heap.size + 2]? = some (.cells Z 41 (0, 0))) := Lib.hid (by rw [hb.block _ (Array.getElem?_eq_some_iff.1 G0.out).1]; exact G0.out)
  have B2 : Hid (Below w.heap.size w w1) := Lib.hid (HB1.out.trans (hb.mono HB1.out.size))
  have HCI : Hid ((Tryd.prog.info? 41).map (·.size) = some C.size) := Lib.hid (by rw [HPS.out]; exact HS32.out)
  have HZC : Hid (Z.size = C.size) := Lib.hid (by rw [HPS.out, HZ32.out])
  clear hb G0 HB1 HDO
  go_wp2_with (refine wpList_store_row rfl 41 (.tmp 4) (.tmp 8) rfl (w.heap.size + 2) C rfl rfl 41 Z G1.out HCI.out HZC.out HP1.out ?_)
  refine bodyPost_ret (v := .tuple #[.agg C, .int .i64 0]) (results_row_tmp (fn := Tryd.f60) (p := 4) (u := 5) (ty := 41) rfl _ _ (w.heap.size + 2) 41 C (0, 0) _ rfl (setRow_heap _ _ _ _ _ _ G1.out) Tryd.underlying41 rfl HCI.out) rfl ⟨rfl, ?_⟩
  exact below_setRow B2.out (by omega) _

end Go.Proofs.YtclflnpbiiimiaaDoor
