/- Draws of pictures, and what the law of codes of Walsh asks for. Condition: a source; a code that can be read. -/
import Derived.Test.YtclflnpbiiimiaaDoorM42
import Derived.Test.YtclflnpbiiimiaaDoorM17
import Derived.Test.YtclflnpbiiimiaaDoorKo
namespace Go.Proofs.YtclflnpbiiimiaaDoor
open Go Go.RowKit Ieee

/-- two pictures lie in memory, beside the source -/
def Lay4 (p z g : Nat) (w : World) (Z C : Array Value) (wx : World) : Prop :=
  wx.heap[g]? = some (.cells C 41 (0, 0)) ∧ wx.heap[z]? = some (.cells Z 41 (0, 0)) ∧ Src p wx ∧ Trn p w wx
theorem Lay4.go {p z g : Nat} {w a b : World} {Z C : Array Value} (h : Lay4 p z g w Z C a) (s : Src p b) (o : Trn p a b) (hg : g ≠ p) (hz : z ≠ p) : Lay4 p z g w Z C b := by
  obtain ⟨h1, h2, _, h4⟩ := h
  exact ⟨by rw [o.block g (Array.getElem?_eq_some_iff.1 h1).1 hg]; exact h1, by rw [o.block z (Array.getElem?_eq_some_iff.1 h2).1 hz]; exact h2, s, h4.trans o⟩
theorem Lay4.set {p z g : Nat} {w a : World} {Z C : Array Value} (h : Lay4 p z g w Z C a) (k : Nat) (v : Value) (hp : p < w.heap.size) (hg : w.heap.size ≤ g) (hz : z ≠ g) : Lay4 p z g w Z (C.setIfInBounds (1 + k) v) (a.setCell ⟨g, 1 + k, none⟩ v) := by
  obtain ⟨h1, h2, h3, h4⟩ := h
  have b : Below w.heap.size a (a.setCell ⟨g, 1 + k, none⟩ v) := (Below.refl w.heap.size a).setCell (p := ⟨g, 1 + k, none⟩) hg v
  exact ⟨heap_setCell_same _ _ _ _ _ _ h1, by rw [heap_setCell_other _ _ _ _ hz]; exact h2, h3.kept b hp, h4.kept b⟩
theorem Lay4.like {p z g : Nat} {w a b : World} {Z C : Array Value} (h : Lay4 p z g w Z C a) (l : Like a b) (hg : g ≠ p) (hz : z ≠ p) : Lay4 p z g w Z C b := h.go (l.src h.2.2.1) (l.own p) hg hz

theorem gl_congr {F G : Nat → Nat} {k : Nat} (h : ∀ i, i < k → F i = G i) : gl F k = gl G k := by
  apply Array.ext_getElem?
  intro i
  rw [gl_get, gl_get]
  by_cases h1 : i < k
  · rw [if_pos h1, if_pos h1, h i h1]
  · rw [if_neg h1, if_neg h1]
theorem gl_next (n : Int) (F : Nat → Nat) (k x : Nat) (hk : k < 64) : (pic n (gl F k)).setIfInBounds (1 + k) (.float .f32 x) = pic n (gl (fun i => if i = k then x else F i) (k + 1)) := by
  have e : gl F k = gl (fun i => if i = k then x else F i) k := gl_congr fun i hi => by
    show F i = if i = k then x else F i
    rw [if_neg (by omega)]
  have := gl_set n (fun i => if i = k then x else F i) k hk
  simp only [if_true] at this
  rw [e]
  exact this
theorem gl_floats (F : Nat → Nat) (k : Nat) : Floats (gl F k) := ⟨gl_size F k, fun i hi => by
  rw [gl_get, if_pos hi]
  by_cases h : i < k
  · rw [if_pos h]; exact ⟨_, trivial, rfl⟩
  · rw [if_neg h]; exact ⟨_, trivial, rfl⟩⟩

/-- a picture was drawn -/
def PicD (p : Nat) (n : Int) (w : World) (e : Ending) (w' : World) : Prop := ∃ F N, e = .returned (.agg (pic n (gl F N))) ∧ Src p w' ∧ Trn p w w'

set_option maxRecDepth 100000 in
set_option maxHeartbeats 1600000 in
theorem drawPic_any (p s : Nat) (hs : s = 1 ∨ s = 2 ∨ s = 4 ∨ s = 8) (w : World) (hsrc : Src p w) : Calls Tryd.prog 53 #[.pointer (some ⟨p, 0, none⟩), .int .i64 (s : Int)] w (PicD p s w) := by
  have hz37 := (zero_of_info info32).1
  have HI : Hid ((Tryd.prog.info? 41).map (·.size) = some (pic 0 zero64).size) := Lib.hid (by rw [pic_size 0 zero64 (by simp [zero64])]; exact (zero_of_info info32).2)
  have hne : ¬ pic 0 zero64 = #[] := fun e => by
    have := congrArg Array.size e
    rw [pic_size 0 zero64 (by simp [zero64])] at this
    simp at this
  have HS65 := Lib.hid (zero_of_info info32).2
  have HZ65 : Hid ((pic 0 zero64).size = 65) := Lib.hid (pic_size 0 zero64 (by simp [zero64]))
  have HB0 := Lib.hid (pic_set0 0 (s : Int) zero64)
  have hss : s * s ≤ 64 := by rcases hs with rfl | rfl | rfl | rfl <;> omega
  have hsq : (s : Int) * s = ((s * s : Nat) : Int) := by rw [Int.natCast_mul]
  have e5 : IntKind.i64.wrap ((s : Int) * s) = ((s * s : Nat) : Int) := (IntWalk.i64_in _ (by omega)).trans hsq
  obtain ⟨E, hE⟩ : ∃ E, E = pic (s : Int) zero64 := ⟨_, rfl⟩
  rw [← hE] at HB0
  have HEE := Lib.hid hE
  have HEI : Hid ((Tryd.prog.info? 41).map (·.size) = some E.size) := Lib.hid (by rw [hE, pic_size _ _ (by simp [zero64])]; exact HS65.out)
  have HZE : Hid ((pic 0 zero64).size = E.size) := Lib.hid (by rw [hE, pic_size _ _ (by simp [zero64]), pic_size _ _ (by simp [zero64])])
  have HE1 : Hid (E.all (·.oneCell') = true) := Lib.hid (by rw [hE, ← gl_zero (fun _ => 0)]; exact gl_one _ _ _)
  generalize pic 0 zero64 = Z at *
  have HP := Lib.hid hsrc.lt
  have S0 := Lib.hid (hsrc.alloc (.cells Z 41))
  have T0 := Lib.hid ((Trn.refl p w).alloc (.cells Z 41))
  have G0 : Hid ((w.alloc (.cells Z 41)).heap[w.heap.size]? = some (.cells Z 41 (0, 0))) := Lib.hid (h1_0 _ _)
  have HSE : Hid (Z.setIfInBounds 0 (.int .i64 (s : Int)) = E) := HB0
  clear hs hE hsrc hsq
  go_enter Tryd.func53, Tryd.ntmps53
  go_wp2_with fail
  refine (next_any p 4 _ S0.out).mono ?_
  rintro e w1 ⟨r, rfl, r0, r1, s1, o1⟩
  have hl0 := (Array.getElem?_eq_some_iff.1 G0.out).1
  have hZ1 : w1.heap[w.heap.size]? = some (.cells Z 41 (0, 0)) := by rw [o1.block _ hl0 (by have := HP.out; omega)]; exact G0.out
  have hl1 := (Array.getElem?_eq_some_iff.1 hZ1).1
  have BX : Below w1.heap.size w1 ((w1.alloc (.cells Z 41)).setRow w1.heap.size E) := below_setRow ((Below.refl _ _).alloc (Nat.le_refl _) _) (Nat.le_refl _) _
  have L1 : Hid (Lay4 p w.heap.size w1.heap.size w Z E ((w1.alloc (.cells Z 41)).setRow w1.heap.size E)) := Lib.hid ⟨setRow_heap _ _ _ _ _ _ (h1_0 _ _), by rw [setRow_other _ _ _ _ (by omega), heap_alloc_old _ _ hl1]; exact hZ1, s1.kept BX s1.lt, (T0.out.trans o1).trans (Below.toTrn BX p)⟩
  have HGP : Hid (w1.heap.size ≠ p ∧ w.heap.size ≠ p ∧ w.heap.size < w1.heap.size ∧ p < w.heap.size) := Lib.hid (by have := HP.out; omega)
  clear s1 o1 hl0 hZ1 hl1 BX G0 S0 T0
  go_wp2_with (first | fail | (rw [HSE.out]; refine wpList_store_row rfl 41 (.tmp 5) (.tmp 10) rfl w1.heap.size E rfl rfl 41 Z (h1_0 _ _) HEI.out HZE.out HE1.out ?_))
  generalize (w1.alloc (.cells Z 41)).setRow w1.heap.size E = V at *
  generalize w1.heap.size = g at *
  generalize s * s = N at *
  clear hz37 hne
  go_loopw [7] (fun i wr => ∃ (k : Nat) (F : Nat → Nat) (C : Array Value), k ≤ N ∧ i = .int .i64 k ∧ Hid (C = pic s (gl F k)) ∧ Hid (Lay4 p w.heap.size g w Z C wr)) (fun i _ => N - (intOf i).toNat)
  case atStart => exact ⟨0, fun _ => 0, E, by omega, rfl, Lib.hid (by rw [HEE.out, gl_zero]), L1⟩
  case round =>
    clear L1
    obtain ⟨k, F, C, hk, rfl, HC, L⟩ := hrel
    by_cases hlt : k < N
    · have hdk : decide ((k : Int) < (N : Int)) = true := by simp; omega
      go_wp2_with fail
      refine (next_any p 9 _ L.out.2.2.1).mono ?_
      rintro e w2 ⟨q, rfl, q0, q1, s2, o2⟩
      have L2 := Lib.hid (L.out.go s2 o2 HGP.out.1 HGP.out.2.1)
      clear s2 o2 L
      go_wp2_with fail
      refine upon_gives (gives_arith _ _ (by decide) _ _ _ _ _) fun z1 w3 hl3 => ?_
      have L3 := Lib.hid (L2.out.like hl3 HGP.out.1 HGP.out.2.1)
      clear hl3 L2
      go_wp2_with fail
      refine upon_gives (gives_conv _ _ _ _ _) fun z2 w4 hl4 => ?_
      have L4 := Lib.hid (L3.out.like hl4 HGP.out.1 HGP.out.2.1)
      clear hl4 L3
      go_upto_if 26 with fail
      go_cut [8] (fun x wx => ∃ y, x = .float .f32 y ∧ Hid (Lay4 p w.heap.size g w Z C wx))
      case first =>
        by_cases hr : r = 1
        · subst hr
          go_wp2_with fail
          refine (drawUnit_any p _ L4.out.2.2.1).mono ?_
          rintro e w5 ⟨y, rfl, s5, o5⟩
          go_wp2_with fail
          go_meet
          exact ⟨_, rfl, Lib.hid (L4.out.go s5 o5 HGP.out.1 HGP.out.2.1)⟩
        · have hr' : (r == 1) = false := by simp [hr]
          go_wp2_with fail
          go_meet
          exact ⟨_, rfl, L4⟩
      case rest =>
      obtain ⟨y, rfl, L5⟩ := hcut
      clear L4
      go_upto_region 8 with fail
      go_cut [35] (fun b wx => ∃ c, b = .bool c ∧ Hid (Lay4 p w.heap.size g w Z C wx))
      case first =>
        by_cases hr : r = 2
        · subst hr
          go_wp2_with fail
          refine (next_any p 10 _ L5.out.2.2.1).mono ?_
          rintro e w6 ⟨q2, rfl, _, _, s6, o6⟩
          go_wp2_with fail
          go_meet
          exact ⟨_, rfl, Lib.hid (L5.out.go s6 o6 HGP.out.1 HGP.out.2.1)⟩
        · have hr' : (r == 2) = false := by simp [hr]
          go_wp2_with fail
          go_meet
          exact ⟨_, rfl, L5⟩
      case rest =>
      obtain ⟨c, rfl, L6⟩ := hcut
      clear L5
      go_upto_if 35 with fail
      go_cut [8] (fun x wx => ∃ y, x = .float .f32 y ∧ Hid (Lay4 p w.heap.size g w Z C wx))
      case first =>
        cases c
        · go_wp2_with fail
          go_meet
          exact ⟨_, rfl, L6⟩
        · go_wp2_with fail
          refine (drawNumber_any p _ L6.out.2.2.1).mono ?_
          rintro e w7 ⟨y2, rfl, s7, o7⟩
          go_wp2_with fail
          go_meet
          exact ⟨_, rfl, Lib.hid (L6.out.go s7 o7 HGP.out.1 HGP.out.2.1)⟩
      case rest =>
      obtain ⟨y2, rfl, L7⟩ := hcut
      clear L6
      go_upto_if 39 with fail
      go_cut [8] (fun x wx => ∃ y, x = .float .f32 y ∧ Hid (Lay4 p w.heap.size g w Z C wx))
      case first =>
        cases hlz : (FloatKind.f32.format.order y2 0 == some .lt)
        · go_wp2_with fail
          go_meet
          exact ⟨_, rfl, L7⟩
        · have hg : ∀ w, (Op.unary .neg (.float .f32 y2)).run Tryd.prog w = .ok (.float .f32 (Op.negFloat .f32 y2)) w := fun w => rfl
          go_wp2_with fail
          go_meet
          exact ⟨_, rfl, L7⟩
      case rest =>
      obtain ⟨y3, rfl, L8⟩ := hcut
      clear L7
      have hk64 : k < 64 := by omega
      have hold : wc.cell? ⟨g, 1 + k, none⟩ = some (.float .f32 0) := by
        rw [cell_of_row _ _ _ _ _ _ L8.out.1, HC.out]; exact gl_old s F k hk64
      have hfree : wc.frozen? ⟨g, 1 + k, none⟩ = false := frozen_of_row _ _ _ _ _ L8.out.1
      have L9 := Lib.hid (L8.out.set k (.float .f32 y3) HGP.out.2.2.2 (by have := HGP.out; omega) (by have := HGP.out; omega))
      have HN := Lib.hid (gl_next s F k y3 hk64)
      clear L8
      go_wp2_with fail
      exact ⟨⟨k + 1, _, C.setIfInBounds (1 + k) (.float .f32 y3), by omega, by go_num, Lib.hid (by rw [HC.out]; exact HN.out), L9⟩, by simp [intOf]; omega⟩
    · obtain rfl : k = N := by omega
      have HC1 : Hid (C.all (·.oneCell') = true) := Lib.hid (by rw [HC.out]; exact gl_one _ _ _)
      have HCI : Hid ((Tryd.prog.info? 41).map (·.size) = some C.size) := Lib.hid (by rw [HC.out, pic_size _ _ (gl_size _ _)]; exact HS65.out)
      have HZC : Hid (Z.size = C.size) := Lib.hid (by rw [HC.out, pic_size _ _ (gl_size _ _)]; exact HZ65.out)
      go_wp2_with (first | (refine wpList_load_row rfl 41 (.tmp 5) rfl g rfl 41 C (0, 0) _ L.out.1 Tryd.underlying41 rfl HCI.out ?_) | (refine wpList_store_row rfl 41 (.tmp 4) (.tmp 46) rfl w.heap.size C rfl rfl 41 Z L.out.2.1 HCI.out HZC.out HC1.out ?_))
      have b : Below w.heap.size wr (wr.setRow w.heap.size C) := below_setRow (Below.refl _ _) (Nat.le_refl _) _
      refine bodyPost_ret (v := .agg C) (results_cell_row (fn := Tryd.f53) (p := 4) (ty := 41) rfl _ _ w.heap.size 41 C (0, 0) _ rfl (setRow_heap _ _ _ _ _ _ L.out.2.1) Tryd.underlying41 rfl HCI.out) rfl ⟨F, k, by rw [HC.out], ?_, ?_⟩
      · exact L.out.2.2.1.kept b HGP.out.2.2.2
      · exact L.out.2.2.2.kept b

end Go.Proofs.YtclflnpbiiimiaaDoor
