/- The program's way to look at two waves: both are waves, their sides are the same. Condition: two waves. -/
import Derived.Test.YtjmfffgddmnkmabMap
import Derived.Test.YtjmfffgddmnkmabM17
import Derived.Test.YtjmfffgddmnkmabGw
import Derived.Deep.QuietTactic
import Derived.BigQuiet
import Derived.Deep.CutBlock
import Derived.Deep.DeepCutAuto
namespace Go.Proofs.Ytjmfffgddmnkmab
open Go Go.RowKit

/-- what lies while waves are looked at: the list at g, the map at b -/
def Cw (g b : Nat) (C : Array Value) (M : Obj) (w v : World) : Prop := v.heap[g]? = some (.cells C 30 (0, 0)) ∧ v.heap[b]? = some M ∧ Below w.heap.size w v
theorem Cw.below {g b : Nat} {C : Array Value} {M : Obj} {w v u : World} (h : Cw g b C M w v) (k : Below v.heap.size v u) : Cw g b C M w u :=
  ⟨by rw [k.block _ (Array.getElem?_eq_some_iff.1 h.1).1]; exact h.1, by rw [k.block _ (Array.getElem?_eq_some_iff.1 h.2.1).1]; exact h.2.1, h.2.2.trans (k.mono h.2.2.size)⟩
theorem Cw.below' {g b : Nat} {C : Array Value} {M : Obj} {w v : World} (h : Cw g b C M w v) : Below w.heap.size w v := h.2.2
theorem Cw.alloc {g b : Nat} {C : Array Value} {M : Obj} {w v : World} (h : Cw g b C M w v) (o : Obj) : Cw g b C M w (v.alloc o) :=
  h.below ((Below.refl _ _).alloc (Nat.le_refl _) o)
theorem Cw.put {g b : Nat} {C : Array Value} {M : Obj} {w v : World} (h : Cw g b C M w v) (hb : w.heap.size ≤ b) (hgb : g ≠ b) (N : Obj) : Cw g b C N w (putM v b N) :=
  ⟨by rw [putM_other _ _ _ _ hgb]; exact h.1, putM_same _ _ _ _ h.2.1, putM_below h.2.2 b hb N⟩

set_option maxRecDepth 100000 in
set_option maxHeartbeats 4000000 in
theorem checkWaves_two (s : Int) (A B : Array Value) (hA : Wav s A) (hB : Wav s B) (h1 : isWav s A = true) (h2 : isWav s B = true) (g : Nat) (w : World) (hg : w.heap[g]? = some (.cells (A ++ B) 30 (0, 0))) :
    Calls Try.prog 89 #[.slice (some ⟨g, 0, none⟩) 2 2] w fun e w' => e = .returned (.int .i64 0) ∧ Below w.heap.size w w' := by
  have hz37 := (zero_of_info info37').1
  have HS37 := Lib.hid (zero_of_info info37').2
  have HZ37 : Hid ((pic 0 zc).size = 65) := Lib.hid (pic_size 0 zc zc_size)
  have HZ1 := Lib.hid (zc_one 0)
  have HZW := Lib.hid (wav_zc 0)
  have hne := pic_ne
  generalize pic 0 zc = Z at *
  have HZI : Hid ((Try.prog.info? 30).map (·.size) = some Z.size) := Lib.hid (by rw [HZ37.out]; exact HS37.out)
  have HAI : Hid ((Try.prog.info? 30).map (·.size) = some A.size) := Lib.hid (by rw [hA.1]; exact HS37.out)
  have HBI : Hid ((Try.prog.info? 30).map (·.size) = some B.size) := Lib.hid (by rw [hB.1]; exact HS37.out)
  have HZA : Hid (Z.size = A.size) := Lib.hid (by rw [hA.1]; exact HZ37.out)
  have HZB : Hid (Z.size = B.size) := Lib.hid (by rw [hB.1]; exact HZ37.out)
  have HA1 := Lib.hid (wav_one hA)
  have HB1 := Lib.hid (wav_one hB)
  have HIA := Lib.hid (implIsW_any s A hA)
  rw [h1] at HIA
  have HIB := Lib.hid (implIsW_any s B hB)
  rw [h2] at HIB
  have HL0 := Lib.hid (look_empty s A hA)
  have HP0 := Lib.hid (put_empty s A hA)
  have HEQ : Hid (∀ k, k < 64 → ∃ x y a b, B[1 + k]? = some (.complex .f32 x y) ∧ A[1 + k]? = some (.complex .f32 a b) ∧ (Op.floatEq .f32 x a && Op.floatEq .f32 y b) = (Op.floatEq .f32 (reAt B k) (reAt A k) && Op.floatEq .f32 (imAt B k) (imAt A k))) := Lib.hid fun k hk => by
    obtain ⟨x, y, hx⟩ := hB.2.2 k hk
    obtain ⟨a, b, ha⟩ := hA.2.2 k hk
    obtain ⟨e1, e2⟩ := at_of B k x y hx
    obtain ⟨e3, e4⟩ := at_of A k a b ha
    exact ⟨x, y, a, b, hx, ha, by rw [e1, e2, e3, e4]⟩
  have HL1 := Lib.hid (look_one s A B hA hB _ HEQ.out)
  have HP1 := Lib.hid (put_one s A B hA hB _ HEQ.out)
  have HGA : Hid (∀ j, j < A.size → (A ++ B)[0 + j]? = A[j]?) := Lib.hid fun j hj => by rw [Nat.zero_add, Array.getElem?_append_left hj]
  have HGB : Hid (∀ j, j < B.size → (A ++ B)[65 + j]? = B[j]?) := Lib.hid fun j hj => by rw [Array.getElem?_append_right (by rw [hA.1]; omega), hA.1, Nat.add_sub_cancel_left]
  have h0 : Hid ((A ++ B)[0]? = some (.int .i64 s)) := Lib.hid (by rw [Array.getElem?_append_left (by rw [hA.1]; omega)]; exact hA.2.1)
  have hA0 := Lib.hid hA.2.1
  have hB0 := Lib.hid hB.2.1
  have hmm := @run_makeMap Try.prog
  have hlt := (Array.getElem?_eq_some_iff.1 hg).1
  have K0 : Hid (Cw g w.heap.size (A ++ B) (.map #[] 0) w (w.alloc (.map #[] 0))) := Lib.hid ⟨by rw [heap_alloc_old _ _ hlt]; exact hg, h1_0 _ _, (Below.refl _ _).alloc (Nat.le_refl _) _⟩
  have hgb : g ≠ w.heap.size := by omega
  generalize (List.range' 0 64).all (fun k => Op.floatEq .f32 (reAt B k) (reAt A k) && Op.floatEq .f32 (imAt B k) (imAt A k)) = q at *
  generalize A ++ B = C at *
  clear hA hB hg hlt HEQ h1 h2
  go_enter Try.func89, Try.ntmps89
  go_wp2_with fail
  generalize w.alloc (.map #[] 0) = v0 at *
  clear hmm
  refine wp_loop_rounds 3 ?_
  rw [rounds_succ]
  go_upto_region 5 with (first | (refine wpList_load_part rfl 30 (.tmp 13) rfl g 0 rfl A _ 30 C (0, 0) K0.out.1 HGA.out Try.underlying30 rfl HAI.out ?_) | (refine wpList_store_row rfl 30 (.tmp 5) (.tmp 14) rfl v0.heap.size A rfl rfl 30 Z (h1_0 _ _) HAI.out HZA.out HA1.out ?_; rw [World.setRow_alloc_new]))
  have K1 := Lib.hid (K0.out.alloc (.cells A 30))
  have R1 : Hid ((v0.alloc (.cells A 30)).heap[v0.heap.size]? = some (.cells A 30 (0, 0))) := Lib.hid (h1_0 _ _)
  generalize v0.heap.size = a1 at *
  generalize v0.alloc (.cells A 30) = v1 at *
  clear K0
  have hl1 := HL0.out _ _ _ K1.out.2.1
  go_upto_region 6 with (refine wpList_load_row rfl 30 (.tmp 5) rfl a1 rfl 30 A (0, 0) _ R1.out Try.underlying30 rfl HAI.out ?_)
  clear hl1
  go_wp2_with (first | (refine wpList_load_row rfl 30 (.tmp 5) rfl a1 rfl 30 A (0, 0) _ R1.out Try.underlying30 rfl HAI.out ?_) | (go_at_call 74; fail))
  refine (HIA.out _).mono ?_
  rintro e u1 ⟨rfl, b1⟩
  have R2 : Hid (u1.heap[a1]? = some (.cells A 30 (0, 0))) := Lib.hid (by rw [b1.block _ (Array.getElem?_eq_some_iff.1 R1.out).1]; exact R1.out)
  have K2 := Lib.hid (K1.out.below b1)
  clear b1 R1 K1
  have hp1 := HP0.out _ _ K2.out.2.1
  have K3 := Lib.hid (K2.out.put (Nat.le_refl _) hgb (.map #[entry A] 1))
  go_wp2_with (refine wpList_load_row rfl 30 (.tmp 5) rfl a1 rfl 30 A (0, 0) _ R2.out Try.underlying30 rfl HAI.out ?_)
  clear hp1 HL0 HP0
  generalize putM u1 w.heap.size (.map #[entry A] 1) = y1 at *
  rw [rounds_succ]
  go_upto_region 5 with (first | (refine wpList_load_part rfl 30 (.tmp 13) rfl g 65 rfl B _ 30 C (0, 0) K3.out.1 HGB.out Try.underlying30 rfl HBI.out ?_) | (refine wpList_store_row rfl 30 (.tmp 5) (.tmp 14) rfl y1.heap.size B rfl rfl 30 Z (h1_0 _ _) HBI.out HZB.out HB1.out ?_; rw [World.setRow_alloc_new]))
  have K4 := Lib.hid (K3.out.alloc (.cells B 30))
  have R4 : Hid ((y1.alloc (.cells B 30)).heap[y1.heap.size]? = some (.cells B 30 (0, 0))) := Lib.hid (h1_0 _ _)
  generalize y1.heap.size = a2 at *
  generalize y1.alloc (.cells B 30) = v2 at *
  clear K3
  have hl2 := HL1.out _ _ _ K4.out.2.1
  cases q
  · go_upto_region 6 with (refine wpList_load_row rfl 30 (.tmp 5) rfl a2 rfl 30 B (0, 0) _ R4.out Try.underlying30 rfl HBI.out ?_)
    clear hl2
    go_wp2_with (first | (refine wpList_load_row rfl 30 (.tmp 5) rfl a2 rfl 30 B (0, 0) _ R4.out Try.underlying30 rfl HBI.out ?_) | (go_at_call 74; fail))
    refine (HIB.out _).mono ?_
    rintro e u2 ⟨rfl, b2⟩
    have R7 : Hid (u2.heap[a2]? = some (.cells B 30 (0, 0))) := Lib.hid (by rw [b2.block _ (Array.getElem?_eq_some_iff.1 R4.out).1]; exact R4.out)
    have K7 := Lib.hid (K4.out.below b2)
    clear b2 R4 K4
    obtain ⟨M, hp2⟩ := HP1.out trivial _ _ K7.out.2.1
    have K8 := Lib.hid (K7.out.put (Nat.le_refl _) hgb M)
    go_wp2_with (refine wpList_load_row rfl 30 (.tmp 5) rfl a2 rfl 30 B (0, 0) _ R7.out Try.underlying30 rfl HBI.out ?_)
    clear hp2 HL1 HP1
    generalize putM u2 w.heap.size M = y2 at *
    rw [rounds_succ]
    go_wp2_with fail
    refine wp_loop_rounds 3 ?_
    rw [rounds_succ]
    go_upto_region 13 with (first | (refine wpList_load_part rfl 30 (.tmp 28) rfl g 0 rfl A _ 30 C (0, 0) K8.out.1 HGA.out Try.underlying30 rfl HAI.out ?_) | (refine wpList_store_row rfl 30 (.tmp 7) (.tmp 29) rfl y2.heap.size A rfl rfl 30 Z (h1_0 _ _) HAI.out HZA.out HA1.out ?_; rw [World.setRow_alloc_new]))
    have K5 := Lib.hid (K8.out.alloc (.cells A 30))
    have R5 : Hid ((y2.alloc (.cells A 30)).heap[y2.heap.size]? = some (.cells A 30 (0, 0))) := Lib.hid (h1_0 _ _)
    generalize y2.heap.size = a5 at *
    generalize y2.alloc (.cells A 30) = v5 at *
    have c5 : v5.cell? ⟨a5, 0, none⟩ = some (.int .i64 s) := by rw [cell_of_row _ _ _ _ _ _ R5.out]; exact hA0.out
    have d5 : v5.cell? ⟨g, 0, none⟩ = some (.int .i64 s) := by rw [cell_of_row _ _ _ _ _ _ K5.out.1]; exact h0.out
    go_quiet (fail)
    have Q5 := Lib.hid (K5.out.below (below_drewN (Below.refl _ _) nq))
    clear K5 R5
    generalize v5.drewN nq = z5 at *
    clear c5 d5
    go_wp2_with fail
    rw [rounds_succ]
    go_upto_region 13 with (first | (refine wpList_load_part rfl 30 (.tmp 28) rfl g 65 rfl B _ 30 C (0, 0) Q5.out.1 HGB.out Try.underlying30 rfl HBI.out ?_) | (refine wpList_store_row rfl 30 (.tmp 7) (.tmp 29) rfl z5.heap.size B rfl rfl 30 Z (h1_0 _ _) HBI.out HZB.out HB1.out ?_; rw [World.setRow_alloc_new]))
    have K6 := Lib.hid (Q5.out.alloc (.cells B 30))
    have R6 : Hid ((z5.alloc (.cells B 30)).heap[z5.heap.size]? = some (.cells B 30 (0, 0))) := Lib.hid (h1_0 _ _)
    generalize z5.heap.size = a6 at *
    generalize z5.alloc (.cells B 30) = v6 at *
    have c6 : v6.cell? ⟨a6, 0, none⟩ = some (.int .i64 s) := by rw [cell_of_row _ _ _ _ _ _ R6.out]; exact hB0.out
    have d6 : v6.cell? ⟨g, 0, none⟩ = some (.int .i64 s) := by rw [cell_of_row _ _ _ _ _ _ K6.out.1]; exact h0.out
    go_quiet (fail)
    have Q6 := Lib.hid (K6.out.below (below_drewN (Below.refl _ _) nq))
    clear K6 R6
    generalize v6.drewN nq = z6 at *
    clear c6 d6
    go_wp2_with fail
    rw [rounds_succ]
    go_wp2_with fail
    go_ret
    exact ⟨rfl, Q6.out.2.2⟩
  · go_wp2_with (refine wpList_load_row rfl 30 (.tmp 5) rfl a2 rfl 30 B (0, 0) _ R4.out Try.underlying30 rfl HBI.out ?_)
    clear hl2 HL1 HP1
    rw [rounds_succ]
    go_wp2_with fail
    refine wp_loop_rounds 3 ?_
    rw [rounds_succ]
    go_upto_region 13 with (first | (refine wpList_load_part rfl 30 (.tmp 28) rfl g 0 rfl A _ 30 C (0, 0) K4.out.1 HGA.out Try.underlying30 rfl HAI.out ?_) | (refine wpList_store_row rfl 30 (.tmp 7) (.tmp 29) rfl v2.heap.size A rfl rfl 30 Z (h1_0 _ _) HAI.out HZA.out HA1.out ?_; rw [World.setRow_alloc_new]))
    have K5 := Lib.hid (K4.out.alloc (.cells A 30))
    have R5 : Hid ((v2.alloc (.cells A 30)).heap[v2.heap.size]? = some (.cells A 30 (0, 0))) := Lib.hid (h1_0 _ _)
    generalize v2.heap.size = a5 at *
    generalize v2.alloc (.cells A 30) = v5 at *
    have c5 : v5.cell? ⟨a5, 0, none⟩ = some (.int .i64 s) := by rw [cell_of_row _ _ _ _ _ _ R5.out]; exact hA0.out
    have d5 : v5.cell? ⟨g, 0, none⟩ = some (.int .i64 s) := by rw [cell_of_row _ _ _ _ _ _ K5.out.1]; exact h0.out
    go_quiet (fail)
    have Q5 := Lib.hid (K5.out.below (below_drewN (Below.refl _ _) nq))
    clear K5 R5
    generalize v5.drewN nq = z5 at *
    clear c5 d5
    go_wp2_with fail
    rw [rounds_succ]
    go_upto_region 13 with (first | (refine wpList_load_part rfl 30 (.tmp 28) rfl g 65 rfl B _ 30 C (0, 0) Q5.out.1 HGB.out Try.underlying30 rfl HBI.out ?_) | (refine wpList_store_row rfl 30 (.tmp 7) (.tmp 29) rfl z5.heap.size B rfl rfl 30 Z (h1_0 _ _) HBI.out HZB.out HB1.out ?_; rw [World.setRow_alloc_new]))
    have K6 := Lib.hid (Q5.out.alloc (.cells B 30))
    have R6 : Hid ((z5.alloc (.cells B 30)).heap[z5.heap.size]? = some (.cells B 30 (0, 0))) := Lib.hid (h1_0 _ _)
    generalize z5.heap.size = a6 at *
    generalize z5.alloc (.cells B 30) = v6 at *
    have c6 : v6.cell? ⟨a6, 0, none⟩ = some (.int .i64 s) := by rw [cell_of_row _ _ _ _ _ _ R6.out]; exact hB0.out
    have d6 : v6.cell? ⟨g, 0, none⟩ = some (.int .i64 s) := by rw [cell_of_row _ _ _ _ _ _ K6.out.1]; exact h0.out
    go_quiet (fail)
    have Q6 := Lib.hid (K6.out.below (below_drewN (Below.refl _ _) nq))
    clear K6 R6
    generalize v6.drewN nq = z6 at *
    clear c6 d6
    go_wp2_with fail
    rw [rounds_succ]
    go_wp2_with fail
    go_ret
    exact ⟨rfl, Q6.out.2.2⟩
end Go.Proofs.Ytjmfffgddmnkmab
