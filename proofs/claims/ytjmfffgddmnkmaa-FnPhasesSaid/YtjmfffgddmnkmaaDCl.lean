/- The draws of a cell's arguments: a wave, a row and a column. Condition: a code that can be read. -/
import Derived.Test.YtjmfffgddmnkmaaDCe
import Derived.Deep.RegionHeld3
namespace Go.Proofs.Ytjmfffgddmnkmaa
open Go Go.RowKit

/-- what stays while a wave's cell is drawn: the source is one, the wave lies at b, a wave at g, all else that was is as it was -/
def Kept (p b g : Nat) (D : Array Value) (w w' : World) : Prop :=
  Src p w' ∧ w'.heap[b]? = some (.cells D 32 (0, 0)) ∧ (∃ s Y, w'.heap[g]? = some (.cells Y 32 (0, 0)) ∧ Wav s Y) ∧ Below w.heap.size w w'
theorem Kept.own {p b g : Nat} {D : Array Value} {w v v' : World} (h : Kept p b g D w v) (hb : b ≠ p) (hg : g ≠ p) (hp : w.heap.size ≤ p) (s : Src p v') (o : Own p v v') : Kept p b g D w v' := by
  obtain ⟨h1, h2, ⟨t, Y, h3, h4⟩, h5⟩ := h
  have lb : b < v.heap.size := (Array.getElem?_eq_some_iff.1 h2).1
  have lg : g < v.heap.size := (Array.getElem?_eq_some_iff.1 h3).1
  exact ⟨s, by rw [o.block b lb hb]; exact h2, ⟨t, Y, by rw [o.block g lg hg]; exact h3, h4⟩, o.after h5 hp (Nat.le_refl _)⟩
theorem Kept.cell {p b g : Nat} {D : Array Value} {w v : World} (h : Kept p b g D w v) (s : Int) (h0 : D[0]? = some (.int .i64 s)) : v.cell? ⟨b, 0, none⟩ = some (.int .i64 s) := by
  rw [cell_of_row _ _ _ _ _ _ h.2.1]; exact h0
theorem Kept.load {p b g : Nat} {D : Array Value} {w v : World} (h : Kept p b g D w v) (hi : (Try.prog.info? 32).map (·.size) = some D.size) : (loadVar 32 ⟨b, 0, none⟩).run Try.prog v = .ok (.agg D) v :=
  run_loadVar_row v b 32 32 D (0, 0) _ h.2.1 Try.underlying32 rfl hi
theorem yieldsIf_row {ops : Array Oper} {S : World → Prop} {op : Oper} {a : Act} (hw : Region.wanted op (yielded ops a.tmps) = true) (x : Operand) (ho : op.op = .load 32 x)
    (b : Nat) (hx : a.eval x = .pointer (some ⟨b, 0, none⟩)) (D : Array Value) (hS : ∀ w, S w → (loadVar 32 ⟨b, 0, none⟩).run Try.prog w = .ok (.agg D) w) : YieldsIf Try.prog ops S op (.agg D) a :=
  .inl ⟨hw, fun w hw' => by
    unfold execOp
    simp only [ho, hx, Instr.loadAt, Instr.sureAddr, Sem.run_bind, Sem.run_pure, Result.andThen_ok, hS w hw']⟩

theorem results_row_tmp2 {P : Program} {fn : Func} {p u u2 : Tmp} {ty : TypeId} (h : fn.results = #[.cell p ty, .tmp u, .tmp u2]) (tmps : Array Value) (w : World) (g : Nat) (t : TypeId) (cs : Array Value) (fr : Nat × Nat) (d : TypeDesc)
    (hp : tmps.getD p undef = .pointer (some ⟨g, 0, none⟩)) (hg : w.heap[g]? = some (.cells cs t fr))
    (hu : P.underlying ty = some d) (hd : (match d with | .struct _ | .array _ _ => true | _ => false) = true) (hi : (P.info? ty).map (·.size) = some cs.size) :
    (results fn tmps).run P w = .ok (.tuple #[.agg cs, tmps.getD u undef, tmps.getD u2 undef]) w := by
  have hp' : tmps[p]?.getD undef = .pointer (some ⟨g, 0, none⟩) := by simpa using hp
  simp [results, h, hp', asAddr, run_loadVar_row w g t ty cs fr d hg hu hd hi]

set_option maxRecDepth 100000 in
set_option maxHeartbeats 1000000 in
theorem drawCell_any (ad : Option Addr) (len cap : Nat) (w : World) (hc : Code ad len w) :
    Calls Try.prog 29 #[.slice ad len cap] w (fun e w' => ∃ s D, ∃ y x : Int, e = .returned (.tuple #[.agg D, .int .i64 y, .int .i64 x]) ∧ Wav s D ∧ Below w.heap.size w w') := by
  have hz37 := (zero_of_info info37').1
  have HS37 := Lib.hid (zero_of_info info37').2
  have HZ37 : Hid ((pic 0 zc).size = 65) := Lib.hid (pic_size 0 zc zc_size)
  have HZW := Lib.hid (wav_zc 0)
  generalize pic 0 zc = Z at *
  go_enter Try.func29, Try.ntmps29
  go_wp2_with fail
  refine (from_any ad len cap _ (hc.alloc _)).mono ?_
  rintro e w1 ⟨p, rfl, hp, hp1, s1, b1⟩
  rw [size_al] at hp
  have g1 : w1.heap[w.heap.size]? = some (.cells Z 32 (0, 0)) := by rw [b1.block _ (by rw [size_al]; omega)]; exact h1_0 _ _
  have S1 := Lib.hid s1
  have B1 := Lib.hid (((Below.refl w.heap.size w).alloc (Nat.le_refl _) (.cells Z 32)).trans (b1.mono (by rw [size_al]; omega)))
  have G1 := Lib.hid g1
  clear s1 b1 g1
  go_wp2_with fail
  refine (spoil_any p _ S1.out).mono ?_
  rintro e w2 ⟨s, D, rfl, hs, hd, s2, o2⟩
  have hl : w.heap.size < w1.heap.size := (Array.getElem?_eq_some_iff.1 G1.out).1
  have G2 := Lib.hid (show w2.heap[w.heap.size]? = some (.cells Z 32 (0, 0)) by rw [o2.block _ hl (by omega)]; exact G1.out)
  have S2 := Lib.hid s2
  have B2 := Lib.hid (o2.after B1.out (by omega) (Nat.le_refl _))
  have HD1 := Lib.hid (wav_one hd)
  have HDI : Hid ((Try.prog.info? 32).map (·.size) = some D.size) := Lib.hid (by rw [hd.1]; exact HS37.out)
  have HZD : Hid (Z.size = D.size) := Lib.hid (by rw [hd.1]; exact HZ37.out)
  have HD := Lib.hid hd
  clear s2 o2 hd
  have hw1 : IntKind.i64.wrap (s - 1) = s - 1 := IntWalk.i64_in _ (by omega)
  go_upto_region 3 with (first | fail | (refine wpList_store_row rfl 32 (.tmp 6) (.tmp 10) rfl w2.heap.size D rfl rfl 32 Z (h1_0 _ _) HDI.out HZD.out HD1.out ?_; rw [World.setRow_alloc_new]))
  have hpb : w2.heap.size ≠ p := by have := S2.out.lt; omega
  have hgb : w.heap.size ≠ p := by omega
  have hgb2 : w.heap.size ≠ w2.heap.size := by have := (Array.getElem?_eq_some_iff.1 G2.out).1; omega
  have K2 : Hid (Kept p w2.heap.size w.heap.size D w (w2.alloc (.cells D 32)).drew) := Lib.hid ⟨(S2.out.alloc _).below (below_drewN (Below.refl _ _) 1), h1_0 _ _, ⟨0, Z, by show (w2.alloc (.cells D 32)).heap[w.heap.size]? = _; rw [heap_alloc_old _ _ (Array.getElem?_eq_some_iff.1 G2.out).1]; exact G2.out, HZW.out⟩, below_drewN (B2.out.alloc (by have := (Array.getElem?_eq_some_iff.1 G2.out).1; omega) _) 1⟩
  have CC : Hid (∀ w', Kept p w2.heap.size w.heap.size D w w' → w'.cell? ⟨w2.heap.size, 0, none⟩ = some (.int .i64 s)) := Lib.hid fun w' h => h.cell s HD.out.2.1
  have LL : Hid (∀ w', Kept p w2.heap.size w.heap.size D w w' → (loadVar 32 ⟨w2.heap.size, 0, none⟩).run Try.prog w' = .ok (.agg D) w') := Lib.hid fun w' h => h.load HDI.out
  generalize w2.heap.size = b at *
  generalize w2.alloc (.cells D 32) = v at *
  clear B2 S2 G2 B1 S1 G1 hz37
  obtain ⟨m1, hm1, lo1, hi1⟩ : ∃ m, (if 0 > s - 1 then 0 else s - 1) = m ∧ 0 ≤ m ∧ m ≤ 16 := ⟨_, rfl, by split <;> omega, by split <;> omega⟩
  obtain ⟨m2, hm2, lo2, hi2⟩ : ∃ m, (if 1 > s then 1 else s) = m ∧ 0 ≤ m ∧ m ≤ 16 := ⟨_, rfl, by split <;> omega, by split <;> omega⟩
  refine wp_region_noPanic ?_
  refine wp_region_held_drew (S := Kept p b w.heap.size D w) (by kernel_rfl) K2.out (fun hHeld => ?_)
  refine wpAnyH_take (i := 0) rfl (by kernel_rfl) (by kernel_rfl) (by kernel_rfl) (fun _ _ _ h => h) (yieldsIf_row rfl (.tmp 6) rfl b rfl D LL.out) hHeld ?_
  simp only [Act.put]
  refine wpAnyH_take (i := 1) (v := .pointer (some ⟨p, 0, none⟩)) rfl (by kernel_rfl) (by kernel_rfl) (by kernel_rfl) (fun _ _ _ h => h) (Or.inl ⟨by rfl, fun w' hSw => by have c0 := CC.out w' hSw; go_simp⟩) hHeld ?_
  simp only [Act.put]
  refine wpAnyH_take (i := 2) (v := .pointer (some ⟨b, 0, none⟩)) rfl (by kernel_rfl) (by kernel_rfl) (by kernel_rfl) (fun _ _ _ h => h) (Or.inl ⟨by rfl, fun w' hSw => by have c0 := CC.out w' hSw; go_simp⟩) hHeld ?_
  simp only [Act.put]
  refine wpAnyH_take (i := 3) (v := .int .i64 s) rfl (by kernel_rfl) (by kernel_rfl) (by kernel_rfl) (fun _ _ _ h => h) (Or.inl ⟨by rfl, fun w' hSw => by have c0 := CC.out w' hSw; go_simp⟩) hHeld ?_
  simp only [Act.put]
  refine wpAnyH_take (i := 4) (v := .int .i64 (s - 1)) rfl (by kernel_rfl) (by kernel_rfl) (by kernel_rfl) (fun _ _ _ h => h) (Or.inl ⟨by rfl, fun w' hSw => by have c0 := CC.out w' hSw; go_simp⟩) hHeld ?_
  simp only [Act.put]
  refine wpAnyH_take (i := 5) (v := .int .i64 m1) rfl (by kernel_rfl) (by kernel_rfl) (by kernel_rfl) (fun _ _ _ h => h) (Or.inl ⟨by rfl, fun w' hSw => by have c0 := CC.out w' hSw; go_simp⟩) hHeld ?_
  simp only [Act.put]
  refine wpAnyH_take (i := 7) (v := .pointer (some ⟨p, 0, none⟩)) rfl (by kernel_rfl) (by kernel_rfl) (by kernel_rfl) (fun _ _ _ h => h) (Or.inl ⟨by rfl, fun w' hSw => by have c0 := CC.out w' hSw; go_simp⟩) hHeld ?_
  simp only [Act.put]
  refine wpAnyH_take (i := 8) (v := .pointer (some ⟨b, 0, none⟩)) rfl (by kernel_rfl) (by kernel_rfl) (by kernel_rfl) (fun _ _ _ h => h) (Or.inl ⟨by rfl, fun w' hSw => by have c0 := CC.out w' hSw; go_simp⟩) hHeld ?_
  simp only [Act.put]
  refine wpAnyH_take (i := 9) (v := .int .i64 s) rfl (by kernel_rfl) (by kernel_rfl) (by kernel_rfl) (fun _ _ _ h => h) (Or.inl ⟨by rfl, fun w' hSw => by have c0 := CC.out w' hSw; go_simp⟩) hHeld ?_
  simp only [Act.put]
  refine wpAnyH_take (i := 10) (v := .int .i64 m2) rfl (by kernel_rfl) (by kernel_rfl) (by kernel_rfl) (fun _ _ _ h => h) (Or.inl ⟨by rfl, fun w' hSw => by have c0 := CC.out w' hSw; go_simp⟩) hHeld ?_
  simp only [Act.put]
  refine wpAnyH_take (i := 11) (v := .pointer (some ⟨p, 0, none⟩)) rfl (by kernel_rfl) (by kernel_rfl) (by kernel_rfl) (fun _ _ _ h => h) (Or.inl ⟨by rfl, fun w' hSw => by have c0 := CC.out w' hSw; go_simp⟩) hHeld ?_
  simp only [Act.put]
  refine wpAnyH_ready (rs := [6]) (by kernel_rfl) (by simp) ?_
  refine AllReadyH.cons (o := _) rfl (fun K hK => ?_) AllReadyH.nil
  rw [if_pos (by rfl)]
  go_simp
  refine (near_any p m1 lo1 (by omega) _ hHeld.1).mono ?_
  rintro e w3 ⟨y, rfl, hy, s3, o3⟩
  refine hK.out _ _ (hHeld.own hpb hgb (by omega) s3 o3) (fun hHeld3 => ?_)
  clear hK K
  refine wpAnyH_ready (rs := [12]) (by kernel_rfl) (by simp) ?_
  refine AllReadyH.cons (o := _) rfl (fun K hK => ?_) AllReadyH.nil
  rw [if_pos (by rfl)]
  go_simp
  refine (next_any p 20 _ hHeld3.1).mono ?_
  rintro e w4 ⟨r, rfl, r0, r1, s4, o4⟩
  refine hK.out _ _ (hHeld3.own hpb hgb (by omega) s4 o4) (fun hHeld4 => ?_)
  clear hK K hHeld hHeld3 s3 o3
  have hr20 : 0 ≤ r ∧ r < 20 := by omega
  have hq : r.tdiv 19 = 0 ∨ r.tdiv 19 = 1 := by
    rw [Int.tdiv_eq_ediv_of_nonneg r0]; omega
  obtain ⟨q, hqq, hq0⟩ : ∃ q, r.tdiv 19 = q ∧ (q = 0 ∨ q = 1) := ⟨_, rfl, hq⟩
  have hwa : IntKind.i64.wrap (m2 + q) = m2 + q := IntWalk.i64_in _ (by omega)
  have hwq : IntKind.i64.wrap q = q := IntWalk.i64_in _ (by omega)
  refine wpAnyH_take (i := 13) (v := .int .i64 q) rfl (by kernel_rfl) (by kernel_rfl) (by kernel_rfl) (fun _ _ _ h => h) (Or.inl ⟨by rfl, fun w' hSw => by go_simp⟩) hHeld4 ?_
  simp only [Act.put]
  refine wpAnyH_take (i := 14) (v := .int .i64 (m2 + q)) rfl (by kernel_rfl) (by kernel_rfl) (by kernel_rfl) (fun _ _ _ h => h) (Or.inl ⟨by rfl, fun w' hSw => by go_simp⟩) hHeld4 ?_
  simp only [Act.put]
  refine wpAnyH_ready (rs := [15]) (by kernel_rfl) (by simp) ?_
  refine AllReadyH.cons (o := _) rfl (fun K hK => ?_) AllReadyH.nil
  rw [if_pos (by rfl)]
  go_simp
  refine (next_any p (m2 + q) _ hHeld4.1).mono ?_
  rintro e w5 ⟨x, rfl, x0, x1, s5, o5⟩
  refine hK.out _ _ (hHeld4.own hpb hgb (by omega) s5 o5) (fun hHeld5 => ?_)
  clear hK K hHeld4 s4 o4
  obtain ⟨h51, h52, ⟨t, Y, h53, h54⟩, h55⟩ := id hHeld5
  refine wpAnyH_ready (rs := [16]) (by kernel_rfl) (by simp) ?_
  refine AllReadyH.cons (o := _) rfl (fun K hK => ?_) AllReadyH.nil
  rw [if_pos (by rfl)]
  refine wp_store_row 32 (.tmp 2) (.tmp 11) rfl w.heap.size D rfl rfl 32 Y h53 HDI.out (by rw [h54.1, HD.out.1]) HD1.out ?_
  have K6 : Kept p b w.heap.size D w (w5.setRow w.heap.size D) := ⟨h51.setRow h53 hgb h54 _, by rw [heap_setRow_other _ _ _ _ (by omega)]; exact h52, ⟨s, D, setRow_heap _ _ _ _ _ _ h53, HD.out⟩, below_setRow h55 (Nat.le_refl _) _⟩
  refine hK.out _ _ K6 (fun hHeld6 => ?_)
  clear hK K hHeld5
  refine wpAnyH_take (i := 17) (v := .int .i64 y) rfl (by kernel_rfl) (by kernel_rfl) (by kernel_rfl) (fun _ _ _ h => h) (Or.inl ⟨by rfl, fun w' hSw => by go_simp⟩) hHeld6 ?_
  refine (show wpAnyH _ _ _ _ _ _ _ (Act.put _ (some 3) _) _ from ?_)
  simp only [Act.put]
  refine wpAnyH_take (i := 18) (v := .int .i64 x) rfl (by kernel_rfl) (by kernel_rfl) (by kernel_rfl) (fun _ _ _ h => h) (Or.inl ⟨by rfl, fun w' hSw => by go_simp⟩) hHeld6 ?_
  refine (show wpAnyH _ _ _ _ _ _ _ (Act.put _ (some 4) _) _ from ?_)
  simp only [Act.put]
  refine wpAnyH_done (by kernel_rfl) ?_ _
  refine NoPanic.normal ?_
  go_wp2
  refine bodyPost_ret (v := .tuple #[.agg D, .int .i64 y, .int .i64 x]) (results_row_tmp2 (fn := Try.f29) (p := 2) (u := 3) (u2 := 4) (ty := 32) rfl _ _ w.heap.size 32 D (0, 0) _ rfl (setRow_heap _ _ _ _ _ _ h53) Try.underlying32 rfl HDI.out) rfl ⟨s, D, ⟨y, x, rfl⟩, HD.out, hHeld6.2.2.2⟩
end Go.Proofs.Ytjmfffgddmnkmaa
