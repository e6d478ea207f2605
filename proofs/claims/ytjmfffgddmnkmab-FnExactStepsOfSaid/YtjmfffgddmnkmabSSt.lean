/- The model's steps of a picture. Condition: 64 floats. -/
import Derived.Test.YtjmfffgddmnkmabStp
import Derived.Laws.AppendOwn
import Derived.OwnWalk
namespace Go.Proofs.Ytjmfffgddmnkmab
open Go Go.RowKit

theorem okTo_at (n : Nat) (zs : Array Value) (m k : Nat) (h : okTo n zs m = true) (hk : k < m) : okCell n k (bitsAt zs k) = true := by
  induction m with
  | zero => omega
  | succ m ih =>
    rw [okTo, Bool.and_eq_true] at h
    by_cases e : k = m
    · subst e; exact h.2
    · exact ih h.1 (by omega)
theorem shown_level (s : Int) (zs : Array Value) (h : shown s zs = true) (k : Nat) (hk : k < 64) : fin (bitsAt zs k) = true ∧ ltz (bitsAt zs k) = false := by
  unfold shown at h
  rw [Bool.and_eq_true] at h
  have := okTo_at _ zs 64 k h.2 hk
  unfold okCell at this
  simp only [Bool.and_eq_true, Bool.not_eq_true'] at this
  exact this.1
/-- the code of a picture, a number and a number of steps -/
def codeSt (s : Int) (zs : Array Value) (q : Nat) (m : Int) : Int := if shown s zs && fin q then (if leZ q || !inside m 2 256 then 2 else 0) else 1
def stepAt (zs : Array Value) (q : Nat) (m : Int) (i : Nat) : Int := lvlStep (bitsAt zs i) q m
theorem codeSt_one (s : Int) (zs : Array Value) (q : Nat) (m : Int) (h : (shown s zs && fin q) = false) : codeSt s zs q m = 1 := by unfold codeSt; rw [h]; rfl
theorem codeSt_two (s : Int) (zs : Array Value) (q : Nat) (m : Int) (h : (shown s zs && fin q) = true) (h2 : (leZ q || !inside m 2 256) = true) : codeSt s zs q m = 2 := by unfold codeSt; rw [h, h2]; rfl
theorem codeSt_ok (s : Int) (zs : Array Value) (q : Nat) (m : Int) (h : (shown s zs && fin q) = true) (h2 : (leZ q || !inside m 2 256) = false) : codeSt s zs q m = 0 := by unfold codeSt; rw [h, h2]; rfl
theorem inside_two (m : Int) (h : inside m 2 256 = true) : 2 ≤ m ∧ m ≤ 256 := by simpa [inside] using h

set_option maxRecDepth 100000 in
set_option maxHeartbeats 1000000 in
theorem l05Code_any (s : Int) (zs : Array Value) (q : Nat) (m : Int) (hz : Floats zs) (w : World) : Calls Try.prog 97 #[.agg (pic s zs), .float .f32 q, .int .i64 m] w fun e w' => e = .returned (.int .i64 (codeSt s zs q m)) ∧ Below w.heap.size w w' := by
  have HS := Lib.hid (size32 s zs hz)
  have hc := shown_any s zs hz
  have HK := Lib.hid (codeSt_one s zs q m)
  have HK2 := Lib.hid (codeSt_two s zs q m)
  have HK0 := Lib.hid (codeSt_ok s zs q m)
  generalize codeSt s zs q m = K at *
  generalize pic s zs = cs at *
  have HC := Lib.hid hc
  clear hc hz
  go_enter Try.func97, Try.ntmps97
  go_wp2_with (first | fail | (refine wpList_load_row rfl 50 (.tmp 3) rfl w.heap.size rfl 50 cs (0, 0) _ (h1_0 _ _) Try.underlying50 rfl HS.out ?_))
  refine (HC.out _).mono ?_
  rintro e w1 ⟨rfl, b1⟩
  have B1 : Hid (Below w.heap.size w w1) := Lib.hid (((Below.refl w.heap.size w).alloc (Nat.le_refl _) _).trans (b1.mono (by rw [size_al]; omega)))
  clear b1 HC HS
  cases h0 : shown s zs
  · have HE := Lib.hid (HK.out (by rw [h0]; rfl))
    clear h0 HK HK2 HK0
    go_wp2
    go_ret
    exact ⟨by rw [HE.out]; rfl, B1.out⟩
  go_wp2_with fail
  refine (fine_any _ _).mono ?_
  cases hf : fin q
  · have HE := Lib.hid (HK.out (by rw [h0, hf]; rfl))
    clear h0 hf HK HK2 HK0
    rintro e w2 ⟨rfl, n1, rfl⟩
    go_wp2
    go_ret
    exact ⟨by rw [HE.out]; rfl, below_drewN B1.out _⟩
  rintro e w2 ⟨rfl, n1, rfl⟩
  have B2 : Hid (Below w.heap.size w (w1.drewN n1)) := Lib.hid (below_drewN B1.out _)
  generalize w1.drewN n1 = w2 at *
  cases hl : leZ q
  · have hle : (FloatKind.f32.format.order q 0 == some .lt || FloatKind.f32.format.order q 0 == some .eq) = false := hl
    cases hi : inside m 2 256
    · have HE := Lib.hid (HK2.out (by rw [h0, hf]; rfl) (by rw [hl, hi]; rfl))
      clear h0 hf hl HK HK2 HK0 B1
      go_wp2_with (go_at_call 63; refine (l01In_gen _ _ _ _).mono ?_; rw [hi]; rintro e w' ⟨rfl, rfl⟩)
      go_ret
      exact ⟨by rw [HE.out]; rfl, B2.out⟩
    · have HE := Lib.hid (HK0.out (by rw [h0, hf]; rfl) (by rw [hl, hi]; rfl))
      clear h0 hf hl HK HK2 HK0 B1
      go_wp2_with (go_at_call 63; refine (l01In_gen _ _ _ _).mono ?_; rw [hi]; rintro e w' ⟨rfl, rfl⟩)
      go_ret
      exact ⟨by rw [HE.out]; rfl, B2.out⟩
  · have hle : (FloatKind.f32.format.order q 0 == some .lt || FloatKind.f32.format.order q 0 == some .eq) = true := hl
    have HE := Lib.hid (HK2.out (by rw [h0, hf]; rfl) (by rw [hl]; rfl))
    clear h0 hf hl HK HK2 HK0 B1
    go_wp2
    go_ret
    exact ⟨by rw [HE.out]; rfl, B2.out⟩

/-- a list of numbers lies at a place -/
def RowJ (g n : Nat) (f : Nat → Int) (v : World) : Prop := g < v.heap.size ∧ ∀ i, i < n → v.cell? ⟨g, i, none⟩ = some (.int .i64 (f i))
theorem RowJ.below {g n : Nat} {f : Nat → Int} {v u : World} (h : RowJ g n f v) (k : Below v.heap.size v u) : RowJ g n f u :=
  ⟨Nat.lt_of_lt_of_le h.1 k.size, fun i hi => by rw [World.cell?_of_block (w := v) (k.block g h.1)]; exact h.2 i hi⟩

theorem own_ints {w : World} {base n : Nat} {v : Value} {f : Nat → Int} (h : w.ownsRow base 2 1 v n ((List.range n).map fun i => .int .i64 (f i))) (hn : 0 < n) :
    ∃ g cap, v = .slice (some ⟨g, 0, none⟩) n cap ∧ base ≤ g ∧ RowJ g n f w := by
  rcases h.2 with ⟨rfl, h0⟩ | ⟨g, cap, cur, rfl, hb, hg, _⟩
  · omega
  · refine ⟨g, cap, rfl, hb, (Array.getElem?_eq_some_iff.1 hg).1, fun i hi => ?_⟩
    have := h.cells (g := g) rfl i (.int .i64 (f i)) (by rw [List.getElem?_map, List.getElem?_range hi]; rfl)
    rwa [show ((⟨g, 0, none⟩ : Addr).add i) = ⟨g, i, none⟩ by unfold Addr.add; split <;> simp_all] at this
set_option maxRecDepth 100000 in
theorem infoInt : (Try.prog.info? 2).map (fun i => (i.zero, i.size, i.bytes)) = some (some (.int .i64 0), 1, 8) := by kernel_rfl

set_option maxRecDepth 100000 in
set_option maxHeartbeats 800000 in
theorem specSt_no (s : Int) (zs : Array Value) (q : Nat) (m : Int) (hz : Floats zs) (h0 : codeSt s zs q m ≠ 0) (w : World) : Calls Try.prog 36 #[.agg (pic s zs), .float .f32 q, .int .i64 m] w fun e w' => e = .returned (.tuple #[.slice none 0 0, .int .i64 (codeSt s zs q m)]) ∧ Below w.heap.size w w' := by
  have HS := Lib.hid (size32 s zs hz)
  have HC := Lib.hid (l05Code_any s zs q m hz)
  generalize codeSt s zs q m = K at *
  generalize pic s zs = cs at *
  have hk : (K != 0) = true := by simpa using h0
  clear hz
  go_enter Try.func36, Try.ntmps36
  go_wp2_with (first | fail | (refine wpList_load_row rfl 50 (.tmp 3) rfl w.heap.size rfl 50 cs (0, 0) _ (h1_0 _ _) Try.underlying50 rfl HS.out ?_))
  refine (HC.out _).mono ?_
  rintro e w1 ⟨rfl, b1⟩
  have B1 : Hid (Below w.heap.size w w1) := Lib.hid (((Below.refl w.heap.size w).alloc (Nat.le_refl _) _).trans (b1.mono (by rw [size_al]; omega)))
  clear b1
  go_wp2
  go_ret2
  exact ⟨rfl, B1.out⟩

set_option maxRecDepth 100000 in
set_option maxHeartbeats 2000000 in
theorem specSt_yes (s : Nat) (zs : Array Value) (q : Nat) (m : Int) (hz : Floats zs) (hs : side s = true) (h0 : shown s zs = true) (hf : fin q = true) (hl : leZ q = false) (hm : inside m 2 256 = true) (w : World) : Calls Try.prog 36 #[.agg (pic s zs), .float .f32 q, .int .i64 m] w fun e w' => ∃ g cap, e = .returned (.tuple #[.slice (some ⟨g, 0, none⟩) (s * s : Nat) cap, .int .i64 0]) ∧ RowJ g (s * s) (stepAt zs q m) w' ∧ Below w.heap.size w w' := by
  obtain ⟨i0, hi, hz0, hz1, hz2⟩ := info_parts infoInt
  have HS := Lib.hid (size32 s zs hz)
  have hc := l05Code_any s zs q m hz
  rw [codeSt_ok s zs q m (by rw [h0, hf]; rfl) (by rw [hl, hm]; rfl)] at hc
  have HC := Lib.hid hc
  have HP0 := Lib.hid (pic_zero s zs)
  have HP := Lib.hid (pic_succ s zs)
  have hs8 : 1 ≤ s ∧ s ≤ 8 := by rcases side_nat s hs with rfl | rfl | rfl | rfl <;> omega
  have HSS : Hid (s * s ≤ 64) := Lib.hid (sq_le s hs)
  have hw0 : IntKind.i64.wrap ((s : Int) * (s : Int)) = ((s * s : Nat) : Int) := by rw [← Int.natCast_mul]; exact IntWalk.i64_in _ (by have := HSS.out; omega)
  have HL : Hid (∀ k, k < 64 → ∃ x, zs[k]? = some (.float .f32 x) ∧ ∀ v, Calls Try.prog 98 #[.float .f32 x, .float .f32 q, .int .i64 m] v fun e w' => e = .returned (.int .i64 (stepAt zs q m k)) ∧ v = w') := Lib.hid fun k hk => by
    obtain ⟨x, hx, hzk⟩ := hz.2 k hk
    refine ⟨x, hzk, ?_⟩
    obtain ⟨a1, a2⟩ := shown_level s zs h0 k hk
    unfold stepAt
    rw [bitsAt_of zs k x hzk] at a1 a2 ⊢
    exact l05Step_any x q m a1 a2 hf hl (inside_two m hm)
  generalize stepAt zs q m = F at *
  generalize pic s zs = cs at *
  clear hz h0 hc hf hl hm
  have hpos : 0 < s * s := Nat.mul_pos (by omega) (by omega)
  go_enter Try.func36, Try.ntmps36
  go_wp2_with (first | fail | (refine wpList_load_row rfl 50 (.tmp 3) rfl w.heap.size rfl 50 cs (0, 0) _ (h1_0 _ _) Try.underlying50 rfl HS.out ?_))
  refine (HC.out _).mono ?_
  rintro e w1 ⟨rfl, b1⟩
  have P1 : Hid (w1.heap[w.heap.size]? = some (.cells cs 50 (0, 0))) := Lib.hid (by rw [b1.block _ (by rw [size_al]; omega)]; exact h1_0 _ _)
  have B1 : Hid (Below w.heap.size w w1) := Lib.hid (((Below.refl w.heap.size w).alloc (Nat.le_refl _) _).trans (b1.mono (by rw [size_al]; omega)))
  have hsz : w.heap.size + 1 ≤ w1.heap.size := by have := b1.size; rw [size_al] at this; exact this
  clear b1 HC
  generalize hN : s * s = N at *
  have hN64 : N ≤ 64 := HSS.out
  have HN := Lib.hid hN
  clear hN
  go_wp2
  go_loopw [9, 10] (fun v i wr => ∃ k : Nat, k ≤ N ∧ i = .int .i64 k ∧ Hid (wr.ownsRow (w.heap.size + 1) 2 1 v k ((List.range k).map fun i => .int .i64 (F i))) ∧ Hid (wr.heap[w.heap.size]? = some (.cells cs 50 (0, 0))) ∧ Hid (Below w.heap.size w wr)) (fun _ i _ => N - (intOf i).toNat)
  case atStart =>
    refine ⟨0, by omega, rfl, Lib.hid ?_, Lib.hid ?_, Lib.hid ?_⟩
    · exact ⟨rfl, .inr ⟨w1.heap.size, 0, #[], rfl, hsz, h1_0 _ _, by simp, by simp, rfl, rfl⟩⟩
    · rw [heap_alloc_old _ _ (by omega)]; exact P1.out
    · exact B1.out.alloc (by omega) _
  case round =>
    obtain ⟨k, hk, rfl, HO, P0, B⟩ := hrel
    have hp0 : wr.cell? ⟨w.heap.size, 0, none⟩ = some (.int .i64 s) := by rw [cell_of_row _ _ _ _ _ _ P0.out]; exact HP0.out
    by_cases hlt : k < N
    · have hdk : decide ((k : Int) < (N : Int)) = true := by simp; omega
      have hk64 : (k : Int) < 64 := by omega
      obtain ⟨x, hzk, hst⟩ := HL.out k (by omega)
      have hpk : wr.cell? ⟨w.heap.size, 1 + k, none⟩ = some (.float .f32 x) := by rw [cell_of_row _ _ _ _ _ _ P0.out, Nat.add_comm, HP.out]; exact hzk
      have HST := Lib.hid hst
      clear hzk hst
      go_wp2_with (go_at_call 98; fail)
      refine (HST.out _).mono ?_
      rintro e w' ⟨rfl, rfl⟩
      go_wp2_with (at_builtin; refine wpList_append_own _ rfl (.tmp 28) (.tmp 36) 36 rfl (w.heap.size + 1) 2 i0 (.int .i64 0) 1 8 Try.underlying36 hi hz0 hz1 hz2 rfl (by decide) _ _ _ rfl (HO.out.alloc _) ⟨wr.heap.size, 0, none⟩ 1 1 [.int .i64 (F k)] rfl rfl ?c1A ?c2A ?c3A ?c4A ?c5A ?_)
      case c1A =>
        intro j u hj
        match j, hj with
        | 0, hj => simp at hj; subst hj; simp [Addr.add]
      case c2A => intro u hu; simp at hu; subst hu; rfl
      case c3A => unfold maxLen; omega
      case c4A => omega
      case c5A => have := B.out.size; have := (Array.getElem?_eq_some_iff.1 P0.out).1; rw [size_al]; omega
      intro v' w2 hown' hgrow' _
      have hlt0 := (Array.getElem?_eq_some_iff.1 P0.out).1
      have hrow : ∀ j, v'.ownBlock = some j ∨ True := fun _ => .inr trivial
      have HB2 : Hid (Below (w.heap.size + 1) wr w2) := Lib.hid (((Below.refl (w.heap.size + 1) wr).alloc (by omega) _).grown hgrow' (by rw [size_al]; omega) (fun j hj => by
        obtain ⟨_, h⟩ := HO.out
        rcases h with ⟨rfl, _⟩ | ⟨g, cap, cur, rfl, hg, _⟩
        · cases hj
        · injection hj with hj; rw [← hj]; exact hg))
      have P2 : Hid (w2.heap[w.heap.size]? = some (.cells cs 50 (0, 0))) := Lib.hid (by rw [HB2.out.block _ (by omega)]; exact P0.out)
      have B2 : Hid (Below w.heap.size w w2) := Lib.hid (B.out.trans (HB2.out.mono (by omega)))
      have HO2 : Hid (w2.ownsRow (w.heap.size + 1) 2 1 v' (k + 1) ((List.range (k + 1)).map fun i => .int .i64 (F i))) := Lib.hid (by
        rw [List.range_succ, List.map_append]; exact hown')
      clear hown' hgrow' hrow HO P0 B HB2
      go_wp2
      go_roundw
      case rel => exact ⟨k + 1, by omega, by go_num, HO2, P2, B2⟩
      case measure => simp [intOf]; omega
    · obtain rfl : k = N := by omega
      obtain ⟨g, cap, rfl, hg, hR⟩ := own_ints HO.out hpos
      have HR := Lib.hid hR
      clear hR
      go_wp2
      go_ret2
      exact ⟨g, cap, by rw [HN.out]; rfl, by rw [HN.out]; exact HR.out, B.out⟩
end Go.Proofs.Ytjmfffgddmnkmab
