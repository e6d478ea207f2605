/- The program joins two masks cell by cell. Condition: a side; what the closure answers. -/
import Derived.Test.YtjmfffgddmnkmabMk
import Derived.Test.YtjmfffgddmnkmabM21
import Derived.Deep.QuietTactic
import Derived.BigQuiet
import Derived.Deep.RegionHeld3
namespace Go.Proofs.Ytjmfffgddmnkmab
open Go Go.RowKit

set_option maxRecDepth 100000 in
set_option maxHeartbeats 1000000 in
theorem build2_CM (s : Nat) (hs : side s = true) (F : Nat → Nat × Nat) (hF : ∀ i, (fin (F i).1 && fin (F i).2) = true) (pj pm pk : Addr) (w : World)
    (hR : ∀ (y x : Nat) (v : World), y < s → x < s → Below w.heap.size w v → Calls Try.prog 118 #[.int .i64 y, .int .i64 x, .pointer (some pj), .pointer (some pm), .pointer (some pk)] v fun e w' =>
      e = .returned (.complex .f32 (F (s * y + x)).1 (F (s * y + x)).2) ∧ Below v.heap.size v w') :
    Calls Try.prog 77 #[.int .i64 s, .func (.func 118) #[] #[.pointer (some pj), .pointer (some pm), .pointer (some pk)]] w fun e w' =>
      e = .returned (.tuple #[.agg (pic s (gf F (s * s))), .int .i64 0]) ∧ Below w.heap.size w w' := by
  have hz37 := (zero_of_info info37').1
  have HS37 := Lib.hid (zero_of_info info37').2
  have HZ37 : Hid ((pic 0 zc).size = 65) := Lib.hid (pic_size 0 zc zc_size)
  have hne := pic_ne
  have HB := Lib.hid (pic_set0 0 s zc)
  have HR := Lib.hid hR
  have HFW : Hid (FinW s (pic s (gf F (s * s)))) := Lib.hid (gf_fin s F hF (s * s))
  have HPL : Hid (∀ y x, y < s → x < s → s * y + x < 64 ∧ s * y ≤ 56) := Lib.hid fun y x hy hx => place_lt s y x hs hy hx
  have hs8 : s ≤ 8 := by rcases side_nat s hs with rfl | rfl | rfl | rfl <;> omega
  clear hR hF
  obtain ⟨Z, hZ⟩ : ∃ Z, Z = pic 0 zc := ⟨_, rfl⟩
  rw [← hZ] at hz37 HZ37 hne HB
  have HE2 : Hid ((Try.prog.info? 30).map (·.size) = some (Z.setIfInBounds 0 (Value.int .i64 s)).size) := Lib.hid (by rw [HB.out, pic_size _ _ zc_size]; exact HS37.out)
  have HZ2 : Hid (Z.size = (Z.setIfInBounds 0 (Value.int .i64 s)).size) := Lib.hid (by simp)
  have H2 : Hid ((Z.setIfInBounds 0 (Value.int .i64 s)).all (·.oneCell') = true) := Lib.hid (by rw [HB.out]; exact zc_one s)
  obtain ⟨E, hE⟩ : ∃ E, E = pic s zc := ⟨_, rfl⟩
  rw [← hE] at HB
  have HEE := Lib.hid hE
  clear hZ hE hs
  go_enter Try.func77, Try.ntmps77
  go_wp2_with (first | fail | (refine wpList_store_row rfl 30 (.tmp 6) (.tmp 10) rfl (w.heap.size + 1) (Z.setIfInBounds 0 (Value.int .i64 s)) rfl rfl 30 Z (h2_1 _ _ _) HE2.out HZ2.out H2.out ?_; rw [setRow_al2, HB.out]))
  have GG : Hid (((w.alloc (.cells Z 30)).alloc (.cells E 30)).heap[w.heap.size + 1]? = some (.cells E 30 (0, 0))) := Lib.hid (h2_1 _ _ _)
  have GZ : Hid (((w.alloc (.cells Z 30)).alloc (.cells E 30)).heap[w.heap.size]? = some (.cells Z 30 (0, 0))) := Lib.hid (h2_0 _ _ _)
  have BB : Hid (Below w.heap.size w ((w.alloc (.cells Z 30)).alloc (.cells E 30))) := Lib.hid (below_al2 _ _ _)
  generalize (w.alloc (.cells Z 30)).alloc (.cells E 30) = V at *
  clear hz37 hne HE2 HZ2 H2
  go_loopw [12] (fun i wr => ∃ (y : Nat) (C : Array Value), y ≤ s ∧ i = .int .i64 y ∧ Hid (C = pic s (gf F (s * y))) ∧ Hid (wr.heap[w.heap.size + 1]? = some (.cells C 30 (0, 0))) ∧ Hid (wr.heap[w.heap.size]? = some (.cells Z 30 (0, 0))) ∧ Hid (Below w.heap.size w wr)) (fun i _ => s - (intOf i).toNat)
  case atStart => exact ⟨0, E, by omega, rfl, Lib.hid (by rw [HEE.out, Nat.mul_zero, gf_zero]), GG, GZ, BB⟩
  case round =>
    obtain ⟨y, C, hy, rfl, HC, G, Z0, B⟩ := hrel
    by_cases hlt : y < s
    · have hdy : decide ((y : Int) < (s : Int)) = true := by simp; omega
      go_wp2
      go_loopw [16] (fun i wr => ∃ (x : Nat) (D : Array Value), x ≤ s ∧ i = .int .i64 x ∧ Hid (D = pic s (gf F (s * y + x))) ∧ Hid (wr.heap[w.heap.size + 1]? = some (.cells D 30 (0, 0))) ∧ Hid (wr.heap[w.heap.size]? = some (.cells Z 30 (0, 0))) ∧ Hid (Below w.heap.size w wr)) (fun i _ => s - (intOf i).toNat)
      case atStart => exact ⟨0, C, by omega, rfl, HC, G, Z0, B⟩
      case round =>
        obtain ⟨x, D, hx, rfl, HD, G, Z0, B⟩ := hrel
        by_cases hlt2 : x < s
        · have hdx : decide ((x : Int) < (s : Int)) = true := by simp; omega
          obtain ⟨hk, hk'⟩ := HPL.out y x hlt hlt2
          have hw1 : IntKind.i64.wrap ((s : Int) * (y : Int)) = ((s * y : Nat) : Int) := by rw [← Int.natCast_mul]; exact IntWalk.i64_in _ (by omega)
          have HRR := Lib.hid (HR.out y x wr hlt hlt2 B.out)
          have hold0 : Hid (D[1 + (s * y + x)]? = some (.complex .f32 0 0)) := Lib.hid (by rw [HD.out]; exact gf_old s F (s * y + x) hk)
          have HD2 : Hid (D.setIfInBounds (1 + (s * y + x)) (.complex .f32 (F (s * y + x)).1 (F (s * y + x)).2) = pic s (gf F (s * y + x + 1))) := Lib.hid (by rw [HD.out]; exact gf_set s F _ hk)
          clear HD
          generalize s * y = p at *
          have hw2 : IntKind.i64.wrap ((p : Int) + (x : Int)) = ((p + x : Nat) : Int) := by rw [Int.natCast_add]; exact IntWalk.i64_in _ (by omega)
          have hq : ((p + x : Nat) : Int) < 64 := by omega
          have HQ := Lib.hid (show p + x + 1 = p + (x + 1) by omega)
          generalize hkk : p + x = k at *
          go_wp2_with (go_at_call 118; fail)
          refine HRR.out.mono ?_
          rintro e w1 ⟨rfl, b1⟩
          have G1 : Hid (w1.heap[w.heap.size + 1]? = some (.cells D 30 (0, 0))) := Lib.hid (by rw [b1.block _ (Array.getElem?_eq_some_iff.1 G.out).1]; exact G.out)
          have Z1 : Hid (w1.heap[w.heap.size]? = some (.cells Z 30 (0, 0))) := Lib.hid (by rw [b1.block _ (Array.getElem?_eq_some_iff.1 Z0.out).1]; exact Z0.out)
          have B1 : Hid (Below w.heap.size w w1) := Lib.hid (B.out.trans (b1.mono B.out.size))
          clear b1 G Z0 B
          have hold : w1.cell? ⟨w.heap.size + 1, 1 + k, none⟩ = some (.complex .f32 0 0) := by rw [cell_of_row _ _ _ _ _ _ G1.out]; exact hold0.out
          have hfree : w1.frozen? ⟨w.heap.size + 1, 1 + k, none⟩ = false := frozen_of_row _ _ _ _ _ G1.out
          go_wp2
          exact ⟨⟨x + 1, _, by omega, by go_num, Lib.hid (by rw [← HQ.out]; exact HD2.out), Lib.hid (heap_setCell_same _ _ _ _ _ _ G1.out), Lib.hid (by rw [heap_setCell_other _ _ _ _ (by show w.heap.size ≠ w.heap.size + 1; omega)]; exact Z1.out), Lib.hid (B1.out.setCell (by show w.heap.size ≤ w.heap.size + 1; omega) _)⟩, by simp [intOf]; omega⟩
        · obtain rfl : x = s := by omega
          go_wp2
          exact ⟨⟨y + 1, D, by omega, by go_num, Lib.hid (by rw [HD.out, show x * (y + 1) = x * y + x by rw [Nat.mul_succ]]), G, Z0, B⟩, by simp [intOf]; omega⟩
    · obtain rfl : y = s := by omega
      have HCI : Hid ((Try.prog.info? 30).map (·.size) = some C.size) := Lib.hid (by rw [HC.out, HFW.out.1]; exact HS37.out)
      have HZC : Hid (Z.size = C.size) := Lib.hid (by rw [HC.out, HFW.out.1]; exact HZ37.out)
      have HC1 : Hid (C.all (·.oneCell') = true) := Lib.hid (by rw [HC.out]; exact finW_one HFW.out)
      have HFC : Hid (FinW y C) := Lib.hid (by rw [HC.out]; exact HFW.out)
      have HLT : Hid (w.heap.size < wr.heap.size) := Lib.hid (Array.getElem?_eq_some_iff.1 Z0.out).1
      clear HR HPL HB HEE HFW HS37 HZ37
      go_wp2_with (first | fail | (refine wpList_load_row rfl 30 (.tmp 6) rfl (w.heap.size + 1) rfl 30 C (0, 0) _ G.out Try.underlying30 rfl HCI.out ?_))
      refine (finite_wave y C HFC.out wr).mono ?_
      rintro e w1 ⟨rfl, b1⟩
      have HG1 : Hid (w1.heap[w.heap.size]? = some (.cells Z 30)) := Lib.hid (by rw [b1.block _ HLT.out]; exact Z0.out)
      have HB3 : Hid (Below w.heap.size w w1) := Lib.hid (B.out.trans (b1.mono B.out.size))
      clear b1 Z0 G HLT B
      go_wp2_with (first | fail | (refine wpList_store_row rfl 30 (.tmp 4) (.tmp 34) rfl w.heap.size C rfl rfl 30 Z HG1.out HCI.out HZC.out HC1.out ?_))
      refine bodyPost_ret (v := .tuple #[.agg C, .int .i64 0]) (results_row_tmp (fn := Try.f77) (p := 4) (u := 5) (ty := 30) rfl _ _ w.heap.size 30 C (0, 0) _ rfl (setRow_heap _ _ _ _ _ _ HG1.out) Try.underlying30 rfl HCI.out) rfl ⟨by rw [HC.out], ?_⟩
      exact below_setRow HB3.out (Nat.le_refl _) _

theorem q4_3 (w : World) (A B C D : Obj) : ((((w.alloc A).alloc B).alloc C).alloc D).heap[w.heap.size + 1 + 1 + 1]? = some D := by
  have h := heap_alloc_new (((w.alloc A).alloc B).alloc C) D
  rwa [size_al, size_al, size_al] at h
theorem q4_2 (w : World) (A B C D : Obj) : ((((w.alloc A).alloc B).alloc C).alloc D).heap[w.heap.size + 1 + 1]? = some C := by
  rw [heap_alloc_old _ _ (by rw [size_al, size_al, size_al]; omega)]; exact h3_2 w A B C
theorem q4_1 (w : World) (A B C D : Obj) : ((((w.alloc A).alloc B).alloc C).alloc D).heap[w.heap.size + 1]? = some B := by
  rw [heap_alloc_old _ _ (by rw [size_al, size_al, size_al]; omega)]; exact h3_1 w A B C
theorem q4_0 (w : World) (A B C D : Obj) : ((((w.alloc A).alloc B).alloc C).alloc D).heap[w.heap.size]? = some A := by
  rw [heap_alloc_old _ _ (by rw [size_al, size_al, size_al]; omega)]; exact h3_0 w A B C
theorem below_q4 (w : World) (A B C D : Obj) : Below w.heap.size w ((((w.alloc A).alloc B).alloc C).alloc D) :=
  ((((Below.refl _ _).alloc (Nat.le_refl _) _).alloc (by rw [size_al]; omega) _).alloc (by rw [size_al, size_al]; omega) _).alloc (by rw [size_al, size_al, size_al]; omega) _
/-- what stays while a cell of two masks is joined -/
def KeptC (gj gm gk f : Nat) (D E : Array Value) (w w' : World) : Prop :=
  w'.cell? ⟨gj, 0, none⟩ = some (.func (.func f) #[] #[]) ∧ w'.heap[gm]? = some (.cells D 30 (0, 0)) ∧ w'.heap[gk]? = some (.cells E 30 (0, 0)) ∧ Below w.heap.size w w'
theorem KeptC.below {gj gm gk f : Nat} {D E : Array Value} {w v v' : World} (h : KeptC gj gm gk f D E w v) (b : Below v.heap.size v v') : KeptC gj gm gk f D E w v' :=
  ⟨by rw [b.cell (World.block_lt_of_cell? v _ h.1)]; exact h.1, by rw [b.block _ (Array.getElem?_eq_some_iff.1 h.2.1).1]; exact h.2.1, by rw [b.block _ (Array.getElem?_eq_some_iff.1 h.2.2.1).1]; exact h.2.2.1, h.2.2.2.trans (b.mono h.2.2.2.size)⟩
theorem yieldsIf_roww {ops : Array Oper} {S : World → Prop} {op : Oper} {a : Act} (hw : Region.wanted op (yielded ops a.tmps) = true) (x : Operand) (ho : op.op = .load 30 x)
    (b : Nat) (hx : a.eval x = .pointer (some ⟨b, 0, none⟩)) (D : Array Value) (hS : ∀ w, S w → (loadVar 30 ⟨b, 0, none⟩).run Try.prog w = .ok (.agg D) w) : YieldsIf Try.prog ops S op (.agg D) a :=
  .inl ⟨hw, fun w hw' => by
    unfold execOp
    simp only [ho, hx, Instr.loadAt, Instr.sureAddr, Sem.run_bind, Sem.run_pure, Result.andThen_ok, hS w hw']⟩
end Go.Proofs.Ytjmfffgddmnkmab
