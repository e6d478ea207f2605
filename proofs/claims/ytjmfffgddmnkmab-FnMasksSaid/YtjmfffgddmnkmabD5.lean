/- The draws of two masks, and of a wave and a mask, leave some waves, and all memory as it was. Condition: a code that can be read. -/
import Derived.Test.YtjmfffgddmnkmabD4
import Derived.Deep.RegionHeld3
namespace Go.Proofs.Ytjmfffgddmnkmab
open Go Go.RowKit

theorem results_rows2 {P : Program} {fn : Func} {p q : Tmp} {ty : TypeId} (h : fn.results = #[.cell p ty, .cell q ty]) (tmps : Array Value) (w : World) (g g2 : Nat) (t : TypeId) (cs ds : Array Value) (fr fr2 : Nat × Nat) (d : TypeDesc)
    (hp : tmps.getD p undef = .pointer (some ⟨g, 0, none⟩)) (hq : tmps.getD q undef = .pointer (some ⟨g2, 0, none⟩)) (hg : w.heap[g]? = some (.cells cs t fr)) (hg2 : w.heap[g2]? = some (.cells ds t fr2))
    (hu : P.underlying ty = some d) (hd : (match d with | .struct _ | .array _ _ => true | _ => false) = true) (hi : (P.info? ty).map (·.size) = some cs.size) (hi2 : (P.info? ty).map (·.size) = some ds.size) :
    (results fn tmps).run P w = .ok (.tuple #[.agg cs, .agg ds]) w := by
  have hp' : tmps[p]?.getD undef = .pointer (some ⟨g, 0, none⟩) := by simpa using hp
  have hq' : tmps[q]?.getD undef = .pointer (some ⟨g2, 0, none⟩) := by simpa using hq
  simp [results, h, hp', hq', asAddr, run_loadVar_row w g t ty cs fr d hg hu hd hi, run_loadVar_row w g2 t ty ds fr2 d hg2 hu hd hi2]

/-- what stays while two waves are handed back: the source is one, a wave lies at b, waves at two places, all that was is as it was -/
def KeptP (p b g g2 : Nat) (D : Array Value) (w w' : World) : Prop :=
  Src p w' ∧ w'.heap[b]? = some (.cells D 30 (0, 0)) ∧ (∃ (s : Int) (Y : Array Value), w'.heap[g]? = some (.cells Y 30 (0, 0)) ∧ Wav s Y) ∧ (∃ (s : Int) (Y : Array Value), w'.heap[g2]? = some (.cells Y 30 (0, 0)) ∧ Wav s Y) ∧ Below w.heap.size w w'
theorem KeptP.own {p b g g2 : Nat} {D : Array Value} {w v v' : World} (h : KeptP p b g g2 D w v) (hb : b ≠ p) (hg : g ≠ p) (hg2 : g2 ≠ p) (hp : w.heap.size ≤ p) (s : Src p v') (o : Own p v v') : KeptP p b g g2 D w v' := by
  obtain ⟨_, h2, ⟨s3, Y3, h3, h3'⟩, ⟨s4, Y4, h4, h4'⟩, h5⟩ := h
  exact ⟨s, by rw [o.block b (Array.getElem?_eq_some_iff.1 h2).1 hb]; exact h2, ⟨s3, Y3, by rw [o.block g (Array.getElem?_eq_some_iff.1 h3).1 hg]; exact h3, h3'⟩, ⟨s4, Y4, by rw [o.block g2 (Array.getElem?_eq_some_iff.1 h4).1 hg2]; exact h4, h4'⟩, o.after h5 hp (Nat.le_refl _)⟩
theorem yieldsP {ops : Array Oper} {p b g g2 : Nat} {D : Array Value} {w0 : World} {op : Oper} {a : Act} (hw : Region.wanted op (yielded ops a.tmps) = true) (x : Operand) (ho : op.op = .load 30 x)
    (hx : a.eval x = .pointer (some ⟨b, 0, none⟩)) (hD : (Try.prog.info? 30).map (·.size) = some D.size) : YieldsIf Try.prog ops (KeptP p b g g2 D w0) op (.agg D) a :=
  .inl ⟨hw, fun w hw' => by
    unfold execOp
    simp only [ho, hx, Instr.loadAt, Instr.sureAddr, Sem.run_bind, Sem.run_pure, Result.andThen_ok, run_loadVar_row w b 30 30 D (0, 0) _ hw'.2.1 Try.underlying30 rfl hD]⟩

set_option maxRecDepth 100000 in
set_option maxHeartbeats 1000000 in
theorem pair_any (ad : Option Addr) (len cap : Nat) (w : World) (hc : Code ad len w) :
    Calls Try.prog 67 #[.slice ad len cap] w (fun e w' => ∃ (s t : Int) (D E : Array Value), e = .returned (.tuple #[.agg D, .agg E]) ∧ Wav s D ∧ Wav t E ∧ Below w.heap.size w w') := by
  have hz37 := (zero_of_info info37').1
  have HS37 := Lib.hid (zero_of_info info37').2
  have HZ37 : Hid ((pic 0 zc).size = 65) := Lib.hid (pic_size 0 zc zc_size)
  have HZ1 := Lib.hid (zc_one 0)
  have HZW := Lib.hid (wav_zc 0)
  have hne := pic_ne
  generalize pic 0 zc = Z at *
  have HZI : Hid ((Try.prog.info? 30).map (·.size) = some Z.size) := Lib.hid (by rw [HZ37.out]; exact HS37.out)
  have HC := Lib.hid hc
  clear hc
  go_enter Try.func67, Try.ntmps67
  go_upto_region 1 with fail
  have G0 := Lib.hid (h2_0 w (.cells Z 30) (.cells Z 30))
  have G1 := Lib.hid (h2_1 w (.cells Z 30) (.cells Z 30))
  have B0 := Lib.hid (below_al2 w (.cells Z 30) (.cells Z 30))
  have C0 := Lib.hid ((HC.out.alloc (.cells Z 30)).alloc (.cells Z 30))
  have hv : ((w.alloc (.cells Z 30)).alloc (.cells Z 30)).heap.size = w.heap.size + 1 + 1 := by rw [size_al, size_al]
  generalize (w.alloc (.cells Z 30)).alloc (.cells Z 30) = v at *
  go_wp2_with fail
  refine (from_any ad len cap _ C0.out).mono ?_
  rintro e w1 ⟨p, rfl, hp, hp1, s1, b1⟩
  have hpz : w.heap.size + 1 + 1 ≤ p := by omega
  have GA := Lib.hid (show w1.heap[w.heap.size]? = some (.cells Z 30 (0, 0)) by rw [b1.block _ (by omega)]; exact G0.out)
  have GB := Lib.hid (show w1.heap[w.heap.size + 1]? = some (.cells Z 30 (0, 0)) by rw [b1.block _ (by omega)]; exact G1.out)
  have S1 := Lib.hid s1
  have B1 := Lib.hid (B0.out.trans (b1.mono B0.out.size))
  clear s1 b1 G0 G1 B0 C0 hp
  go_wp2_with fail
  refine (drawSide_any p _ S1.out).mono ?_
  rintro e w2 ⟨m, rfl, hm, s2, o2⟩
  go_wp2_with fail
  refine (mask_any p m hm _ s2).mono ?_
  rintro e w3 ⟨M0, rfl, hM0, s3, o3⟩
  go_wp2_with fail
  refine (spoilM_any p m M0 hM0 _ s3).mono ?_
  rintro e w4 ⟨D, rfl, hd, s4, o4⟩
  have HD1 := Lib.hid (wav_one hd)
  have HDI : Hid ((Try.prog.info? 30).map (·.size) = some D.size) := Lib.hid (by rw [hd.1]; exact HS37.out)
  have HZD : Hid (Z.size = D.size) := Lib.hid (by rw [hd.1]; exact HZ37.out)
  have HD := Lib.hid hd
  have OA := Lib.hid ((o2.trans o3).trans o4)
  have S4 := Lib.hid s4
  clear s2 o2 s3 o3 s4 o4 hd hM0
  have hla := (Array.getElem?_eq_some_iff.1 GA.out).1
  have hlb := (Array.getElem?_eq_some_iff.1 GB.out).1
  have GA4 := Lib.hid (show (w4.alloc (.cells D 30)).heap[w.heap.size]? = some (.cells Z 30 (0, 0)) by rw [heap_alloc_old _ _ (by have := OA.out.size; omega), OA.out.block _ hla (by omega)]; exact GA.out)
  have GB4 := Lib.hid (show (w4.alloc (.cells D 30)).heap[w.heap.size + 1]? = some (.cells Z 30 (0, 0)) by rw [heap_alloc_old _ _ (by have := OA.out.size; omega), OA.out.block _ hlb (by omega)]; exact GB.out)
  have hp4 := S4.out.lt
  have S5 := Lib.hid (S4.out.alloc (.cells D 30))
  have B5 := Lib.hid ((OA.out.alloc (.cells D 30)).after B1.out (by omega) (Nat.le_refl _))
  have D5 := Lib.hid (h1_0 w4 (.cells D 30))
  go_upto_region 4 with (refine wpList_store_row rfl 30 (.tmp 6) (.tmp 15) rfl w4.heap.size D rfl rfl 30 Z (h1_0 _ _) HDI.out HZD.out HD1.out ?_; rw [World.setRow_alloc_new])
  have KB : Hid (w4.heap.size ≠ p ∧ w4.heap.size ≠ w.heap.size + 1) := Lib.hid ⟨by omega, by have := OA.out.size; omega⟩
  generalize w4.heap.size = b at *
  generalize w4.alloc (.cells D 30) = v4 at *
  clear GA GB S1 B1 OA S4 hp4 hla hlb HD1 HZD
  go_wp2_with fail
  refine (next_any p 16 _ S5.out).mono ?_
  rintro e w5 ⟨r, rfl, r0, r1, s5, o5⟩
  have K5 : Hid (KeptP p b w.heap.size (w.heap.size + 1) D w w5) := Lib.hid (KeptP.own ⟨S5.out, D5.out, ⟨0, Z, GA4.out, HZW.out⟩, ⟨0, Z, GB4.out, HZW.out⟩, B5.out⟩ KB.out.1 (by omega) (by omega) (by omega) s5 o5)
  clear s5 o5 S5 D5 GA4 GB4 B5
  go_upto_if 18 with fail
  go_cut [5] (fun x wx => ∃ n : Int, (n = 1 ∨ n = 2 ∨ n = 4 ∨ n = 8) ∧ x = .int .i64 n ∧ Hid (KeptP p b w.heap.size (w.heap.size + 1) D w wx))
  case first =>
    by_cases hr : r = 0
    · subst hr
      go_wp2_with fail
      refine (drawSide_any p _ K5.out.1).mono ?_
      rintro e w6 ⟨n, rfl, hn, s6, o6⟩
      have K6 := Lib.hid (K5.out.own KB.out.1 (by omega) (by omega) (by omega) s6 o6)
      clear s6 o6 K5
      go_wp2_with fail
      go_meet
      exact ⟨n, hn, rfl, K6⟩
    · have hr' : (r == 0) = false := by simp [hr]
      go_wp2_with fail
      go_meet
      exact ⟨m, hm, rfl, K5⟩
  case rest =>
  obtain ⟨n, hn, rfl, K6⟩ := hcut
  have K0 : Hid (KeptP p b w.heap.size (w.heap.size + 1) D w wc.drew) := Lib.hid ⟨K6.out.1.below (below_drewN (Below.refl _ _) 1), K6.out.2.1, K6.out.2.2.1, K6.out.2.2.2.1, below_drewN K6.out.2.2.2.2 1⟩
  clear K5 K6 hm
  go_upto_region 6 with fail
  have hgp : w.heap.size ≠ p := by omega
  have hg2p : w.heap.size + 1 ≠ p := by omega
  have hbp : b ≠ p := KB.out.1
  refine wp_region_noPanic ?_
  refine wp_region_held_drew (S := KeptP p b w.heap.size (w.heap.size + 1) D w) (by kernel_rfl) K0.out (fun h1 => ?_)
  refine wpAnyH_take (i := 0) rfl (by kernel_rfl) (by kernel_rfl) (by kernel_rfl) (fun _ _ _ h => h) (yieldsP rfl (.tmp 6) rfl rfl HDI.out) h1 ?_
  simp only [Act.put]
  refine wpAnyH_take (i := 1) (v := .pointer (some ⟨p, 0, none⟩)) rfl (by kernel_rfl) (by kernel_rfl) (by kernel_rfl) (fun _ _ _ h => h) (Or.inl ⟨by rfl, fun w' hSw => by go_simp⟩) h1 ?_
  simp only [Act.put]
  refine wpAnyH_take (i := 2) (v := .pointer (some ⟨p, 0, none⟩)) rfl (by kernel_rfl) (by kernel_rfl) (by kernel_rfl) (fun _ _ _ h => h) (Or.inl ⟨by rfl, fun w' hSw => by go_simp⟩) h1 ?_
  simp only [Act.put]
  refine wpAnyH_take (i := 3) (v := .int .i64 n) rfl (by kernel_rfl) (by kernel_rfl) (by kernel_rfl) (fun _ _ _ h => h) (Or.inl ⟨by rfl, fun w' hSw => by go_simp⟩) h1 ?_
  simp only [Act.put]
  refine wpAnyH_ready (rs := [4]) (by kernel_rfl) (by simp) ?_
  refine AllReadyH.cons (o := _) rfl (fun K hK => ?_) AllReadyH.nil
  rw [if_pos (by rfl)]
  go_simp
  refine (mask_any p n hn _ h1.1).mono ?_
  rintro e u1 ⟨M, rfl, hM, s7, o7⟩
  refine hK.out _ _ (h1.own hbp hgp hg2p (by omega) s7 o7) (fun h2 => ?_)
  clear hK K
  refine wpAnyH_ready (rs := [5]) (by kernel_rfl) (by simp) ?_
  refine AllReadyH.cons (o := _) rfl (fun K hK => ?_) AllReadyH.nil
  rw [if_pos (by rfl)]
  go_simp
  refine (spoilM_any p n M hM _ h2.1).mono ?_
  rintro e u2 ⟨E, rfl, hE, s8, o8⟩
  refine hK.out _ _ (h2.own hbp hgp hg2p (by omega) s8 o8) (fun h3 => ?_)
  clear hK K
  have HE1 := wav_one hE
  have HEI : (Try.prog.info? 30).map (·.size) = some E.size := by rw [hE.1]; exact HS37.out
  obtain ⟨q1, q2, ⟨s3, Y3, q3, q3'⟩, ⟨s4, Y4, q4, q4'⟩, q5⟩ := id h3
  refine wpAnyH_ready (rs := [6]) (by kernel_rfl) (by simp) ?_
  refine AllReadyH.cons (o := _) rfl (fun K hK => ?_) AllReadyH.nil
  rw [if_pos (by rfl)]
  refine wp_store_row 30 (.tmp 2) (.tmp 21) rfl w.heap.size D rfl rfl 30 Y3 q3 HDI.out (by rw [q3'.1, HD.out.1]) (wav_one HD.out) ?_
  have r3 := setRow_heap _ _ _ D _ _ q3
  have r4 : (u2.setRow w.heap.size D).heap[w.heap.size + 1]? = some (.cells Y4 30 (0, 0)) := by rw [heap_setRow_other _ _ _ _ (by omega)]; exact q4
  have r5 := below_setRow q5 (Nat.le_refl _) D
  have rb : (u2.setRow w.heap.size D).heap[b]? = some (.cells D 30 (0, 0)) := by
    by_cases e : b = w.heap.size
    · rw [e]; exact r3
    · rw [heap_setRow_other _ _ _ _ e]; exact q2
  have rs := q1.setRow q3 hgp q3' D
  refine hK.out _ _ ⟨rs, rb, ⟨_, D, r3, HD.out⟩, ⟨s4, Y4, r4, q4'⟩, r5⟩ (fun h4 => ?_)
  clear hK K
  refine wpAnyH_ready (rs := [7]) (by kernel_rfl) (by simp) ?_
  refine AllReadyH.cons (o := _) rfl (fun K hK => ?_) AllReadyH.nil
  rw [if_pos (by rfl)]
  refine wp_store_row 30 (.tmp 3) (.tmp 26) rfl (w.heap.size + 1) E rfl rfl 30 Y4 r4 HEI (by rw [q4'.1, hE.1]) HE1 ?_
  have z4 := setRow_heap _ _ _ E _ _ r4
  have z3 : ((u2.setRow w.heap.size D).setRow (w.heap.size + 1) E).heap[w.heap.size]? = some (.cells D 30 (0, 0)) := by rw [heap_setRow_other _ _ _ _ (by omega)]; exact r3
  have z5 := below_setRow r5 (show w.heap.size ≤ w.heap.size + 1 by omega) E
  have zb : ((u2.setRow w.heap.size D).setRow (w.heap.size + 1) E).heap[b]? = some (.cells D 30 (0, 0)) := by
    rw [heap_setRow_other _ _ _ _ KB.out.2]; exact rb
  refine hK.out _ _ ⟨rs.setRow r4 hg2p q4' E, zb, ⟨_, D, z3, HD.out⟩, ⟨_, E, z4, hE⟩, z5⟩ (fun h5 => ?_)
  clear hK K
  refine wpAnyH_done (by kernel_rfl) ?_ _
  refine NoPanic.normal ?_
  have Z3 := Lib.hid z3
  have Z4 := Lib.hid z4
  have Z5 := Lib.hid z5
  clear h1 h2 h3 h4 h5 q1 q2 q3 q4 q5 r3 r4 r5 rb rs z3 z4 z5 zb
  go_wp2
  refine bodyPost_ret (v := .tuple #[.agg D, .agg E]) (results_rows2 (fn := Try.f67) (p := 2) (q := 3) (ty := 30) rfl _ _ w.heap.size (w.heap.size + 1) 30 D E (0, 0) (0, 0) _ rfl rfl Z3.out Z4.out Try.underlying30 rfl HDI.out HEI) rfl ⟨_, _, D, E, rfl, HD.out, hE, Z5.out⟩

/-- what stays while two waves that lie are handed back -/
def KeptU (b b2 g g2 : Nat) (D E : Array Value) (w w' : World) : Prop :=
  w'.heap[b]? = some (.cells D 30 (0, 0)) ∧ w'.heap[b2]? = some (.cells E 30 (0, 0)) ∧ (∃ (s : Int) (Y : Array Value), w'.heap[g]? = some (.cells Y 30 (0, 0)) ∧ Wav s Y) ∧ (∃ (s : Int) (Y : Array Value), w'.heap[g2]? = some (.cells Y 30 (0, 0)) ∧ Wav s Y) ∧ Below w.heap.size w w'
theorem yieldsU {ops : Array Oper} {b b2 g g2 : Nat} {D E : Array Value} {w0 : World} {op : Oper} {a : Act} (hw : Region.wanted op (yielded ops a.tmps) = true) (x : Operand) (ho : op.op = .load 30 x)
    (hx : a.eval x = .pointer (some ⟨b, 0, none⟩)) (hD : (Try.prog.info? 30).map (·.size) = some D.size) : YieldsIf Try.prog ops (KeptU b b2 g g2 D E w0) op (.agg D) a :=
  .inl ⟨hw, fun w hw' => by
    unfold execOp
    simp only [ho, hx, Instr.loadAt, Instr.sureAddr, Sem.run_bind, Sem.run_pure, Result.andThen_ok, run_loadVar_row w b 30 30 D (0, 0) _ hw'.1 Try.underlying30 rfl hD]⟩
theorem yieldsU2 {ops : Array Oper} {b b2 g g2 : Nat} {D E : Array Value} {w0 : World} {op : Oper} {a : Act} (hw : Region.wanted op (yielded ops a.tmps) = true) (x : Operand) (ho : op.op = .load 30 x)
    (hx : a.eval x = .pointer (some ⟨b2, 0, none⟩)) (hE : (Try.prog.info? 30).map (·.size) = some E.size) : YieldsIf Try.prog ops (KeptU b b2 g g2 D E w0) op (.agg E) a :=
  .inl ⟨hw, fun w hw' => by
    unfold execOp
    simp only [ho, hx, Instr.loadAt, Instr.sureAddr, Sem.run_bind, Sem.run_pure, Result.andThen_ok, run_loadVar_row w b2 30 30 E (0, 0) _ hw'.2.1 Try.underlying30 rfl hE]⟩

set_option maxRecDepth 100000 in
set_option maxHeartbeats 1000000 in
theorem dUnion_any (ad : Option Addr) (len cap : Nat) (w : World) (hc : Code ad len w) :
    Calls Try.prog 14 #[.slice ad len cap] w (fun e w' => ∃ (s t : Int) (D E : Array Value), e = .returned (.tuple #[.agg D, .agg E]) ∧ Wav s D ∧ Wav t E ∧ Below w.heap.size w w') := by
  have hz37 := (zero_of_info info37').1
  have HS37 := Lib.hid (zero_of_info info37').2
  have HZ37 : Hid ((pic 0 zc).size = 65) := Lib.hid (pic_size 0 zc zc_size)
  have HZ1 := Lib.hid (zc_one 0)
  have HZW := Lib.hid (wav_zc 0)
  have hne := pic_ne
  generalize pic 0 zc = Z at *
  have HZI : Hid ((Try.prog.info? 30).map (·.size) = some Z.size) := Lib.hid (by rw [HZ37.out]; exact HS37.out)
  have HC := Lib.hid hc
  clear hc
  go_enter Try.func14, Try.ntmps14
  go_upto_region 1 with fail
  have G0 := Lib.hid (h2_0 w (.cells Z 30) (.cells Z 30))
  have G1 := Lib.hid (h2_1 w (.cells Z 30) (.cells Z 30))
  have B0 := Lib.hid (below_al2 w (.cells Z 30) (.cells Z 30))
  have C0 := Lib.hid ((HC.out.alloc (.cells Z 30)).alloc (.cells Z 30))
  have hv : ((w.alloc (.cells Z 30)).alloc (.cells Z 30)).heap.size = w.heap.size + 1 + 1 := by rw [size_al, size_al]
  generalize (w.alloc (.cells Z 30)).alloc (.cells Z 30) = v at *
  go_wp2_with fail
  refine (pair_any ad len cap _ C0.out).mono ?_
  rintro e w1 ⟨s, t, D, E, rfl, hd, he, b1⟩
  have GA := Lib.hid (show w1.heap[w.heap.size]? = some (.cells Z 30 (0, 0)) by rw [b1.block _ (by omega)]; exact G0.out)
  have GB := Lib.hid (show w1.heap[w.heap.size + 1]? = some (.cells Z 30 (0, 0)) by rw [b1.block _ (by omega)]; exact G1.out)
  have B1 := Lib.hid (B0.out.trans (b1.mono B0.out.size))
  have hla := (Array.getElem?_eq_some_iff.1 GA.out).1
  have hlb := (Array.getElem?_eq_some_iff.1 GB.out).1
  have HD1 := Lib.hid (wav_one hd)
  have HDI : Hid ((Try.prog.info? 30).map (·.size) = some D.size) := Lib.hid (by rw [hd.1]; exact HS37.out)
  have HZD : Hid (Z.size = D.size) := Lib.hid (by rw [hd.1]; exact HZ37.out)
  have HE1 := Lib.hid (wav_one he)
  have HEI : Hid ((Try.prog.info? 30).map (·.size) = some E.size) := Lib.hid (by rw [he.1]; exact HS37.out)
  have HZE : Hid (Z.size = E.size) := Lib.hid (by rw [he.1]; exact HZ37.out)
  have HD := Lib.hid hd
  have HE := Lib.hid he
  clear b1 G0 G1 B0 C0 hd he
  have X2 := Lib.hid (show (((w1.alloc (.cells Z 30)).alloc (.cells Z 30)).setRow w1.heap.size D).heap[w1.heap.size + 1]? = some (.cells Z 30 (0, 0)) by rw [heap_setRow_other _ _ _ _ (by omega)]; exact h2_1 _ _ _)
  go_upto_region 2 with (first | (refine wpList_store_row rfl 30 (.tmp 4) (.tmp 9) rfl w1.heap.size D rfl rfl 30 Z (h2_0 _ _ _) HDI.out HZD.out HD1.out ?_) | (refine wpList_store_row rfl 30 (.tmp 5) (.tmp 10) rfl (w1.heap.size + 1) E rfl rfl 30 Z X2.out HEI.out HZE.out HE1.out ?_))
  have K0 : Hid (KeptU w1.heap.size (w1.heap.size + 1) w.heap.size (w.heap.size + 1) D E w ((((w1.alloc (.cells Z 30)).alloc (.cells Z 30)).setRow w1.heap.size D).setRow (w1.heap.size + 1) E).drew) := Lib.hid (by
    have hb2 : Below w.heap.size w ((w1.alloc (.cells Z 30)).alloc (.cells Z 30)) := (B1.out.alloc B1.out.size _).alloc (by rw [size_al]; have := B1.out.size; omega) _
    have hs1 := B1.out.size
    refine ⟨?_, ?_, ⟨0, Z, ?_, HZW.out⟩, ⟨0, Z, ?_, HZW.out⟩, below_drewN (below_setRow (below_setRow hb2 (by omega) _) (by omega) _) 1⟩
    · show (((((w1.alloc (.cells Z 30)).alloc (.cells Z 30)).setRow w1.heap.size D).setRow (w1.heap.size + 1) E)).heap[w1.heap.size]? = _
      rw [heap_setRow_other _ _ _ _ (by omega)]; exact setRow_heap _ _ _ _ _ _ (h2_0 _ _ _)
    · show (((((w1.alloc (.cells Z 30)).alloc (.cells Z 30)).setRow w1.heap.size D).setRow (w1.heap.size + 1) E)).heap[w1.heap.size + 1]? = _
      exact setRow_heap _ _ _ _ _ _ X2.out
    · show (((((w1.alloc (.cells Z 30)).alloc (.cells Z 30)).setRow w1.heap.size D).setRow (w1.heap.size + 1) E)).heap[w.heap.size]? = _
      rw [heap_setRow_other _ _ _ _ (by omega), heap_setRow_other _ _ _ _ (by omega), heap_alloc_old _ _ (by rw [size_al]; omega), heap_alloc_old _ _ hla]; exact GA.out
    · show (((((w1.alloc (.cells Z 30)).alloc (.cells Z 30)).setRow w1.heap.size D).setRow (w1.heap.size + 1) E)).heap[w.heap.size + 1]? = _
      rw [heap_setRow_other _ _ _ _ (by omega), heap_setRow_other _ _ _ _ (by omega), heap_alloc_old _ _ (by rw [size_al]; omega), heap_alloc_old _ _ hlb]; exact GB.out)
  have KB : Hid (w1.heap.size ≠ w.heap.size ∧ w1.heap.size ≠ w.heap.size + 1 ∧ w1.heap.size + 1 ≠ w.heap.size ∧ w1.heap.size + 1 ≠ w.heap.size + 1) := Lib.hid ⟨by omega, by omega, by omega, by omega⟩
  clear X2 GA GB B1
  generalize (((w1.alloc (.cells Z 30)).alloc (.cells Z 30)).setRow w1.heap.size D).setRow (w1.heap.size + 1) E = v2 at *
  obtain ⟨b2, hb2⟩ : ∃ b2, b2 = w1.heap.size + 1 := ⟨_, rfl⟩
  rw [← hb2] at K0 KB
  generalize w1.heap.size = b at *
  refine wp_region_noPanic ?_
  refine wp_region_held_drew (S := KeptU b b2 w.heap.size (w.heap.size + 1) D E w) (by kernel_rfl) K0.out (fun h1 => ?_)
  refine wpAnyH_take (i := 0) rfl (by kernel_rfl) (by kernel_rfl) (by kernel_rfl) (fun _ _ _ h => h) (yieldsU rfl (.tmp 4) rfl rfl HDI.out) h1 ?_
  refine (show wpAnyH _ _ _ _ _ _ _ (Act.put _ (some 11) _) _ from ?_)
  simp only [Act.put]
  refine wpAnyH_take (i := 1) rfl (by kernel_rfl) (by kernel_rfl) (by kernel_rfl) (fun _ _ _ h => h) (yieldsU2 rfl (.tmp 5) rfl (by rw [hb2]; rfl) HEI.out) h1 ?_
  refine (show wpAnyH _ _ _ _ _ _ _ (Act.put _ (some 12) _) _ from ?_)
  simp only [Act.put]
  obtain ⟨q1, q2, ⟨s3, Y3, q3, q3'⟩, ⟨s4, Y4, q4, q4'⟩, q5⟩ := id h1
  generalize v2.drew = u2 at *
  refine wpAnyH_ready (rs := [2]) (by kernel_rfl) (by simp) ?_
  refine AllReadyH.cons (o := _) rfl (fun K hK => ?_) AllReadyH.nil
  rw [if_pos (by rfl)]
  refine wp_store_row 30 (.tmp 2) (.tmp 11) rfl w.heap.size D rfl rfl 30 Y3 q3 HDI.out (by rw [q3'.1, HD.out.1]) (wav_one HD.out) ?_
  have r3 := setRow_heap _ _ _ D _ _ q3
  have r4 : (u2.setRow w.heap.size D).heap[w.heap.size + 1]? = some (.cells Y4 30 (0, 0)) := by rw [heap_setRow_other _ _ _ _ (by omega)]; exact q4
  have r5 := below_setRow q5 (Nat.le_refl _) D
  have rb : (u2.setRow w.heap.size D).heap[b]? = some (.cells D 30 (0, 0)) := by rw [heap_setRow_other _ _ _ _ KB.out.1]; exact q1
  have rb2 : (u2.setRow w.heap.size D).heap[b2]? = some (.cells E 30 (0, 0)) := by rw [heap_setRow_other _ _ _ _ KB.out.2.2.1]; exact q2
  refine hK.out _ _ ⟨rb, rb2, ⟨_, D, r3, HD.out⟩, ⟨s4, Y4, r4, q4'⟩, r5⟩ (fun h4 => ?_)
  clear hK K
  refine wpAnyH_ready (rs := [3]) (by kernel_rfl) (by simp) ?_
  refine AllReadyH.cons (o := _) rfl (fun K hK => ?_) AllReadyH.nil
  rw [if_pos (by rfl)]
  refine wp_store_row 30 (.tmp 3) (.tmp 12) rfl (w.heap.size + 1) E rfl rfl 30 Y4 r4 HEI.out (by rw [q4'.1, HE.out.1]) HE1.out ?_
  have z4 := setRow_heap _ _ _ E _ _ r4
  have z3 : ((u2.setRow w.heap.size D).setRow (w.heap.size + 1) E).heap[w.heap.size]? = some (.cells D 30 (0, 0)) := by rw [heap_setRow_other _ _ _ _ (by omega)]; exact r3
  have z5 := below_setRow r5 (show w.heap.size ≤ w.heap.size + 1 by omega) E
  refine hK.out _ _ ⟨by rw [heap_setRow_other _ _ _ _ KB.out.2.1]; exact rb, by rw [heap_setRow_other _ _ _ _ KB.out.2.2.2]; exact rb2, ⟨_, D, z3, HD.out⟩, ⟨_, E, z4, HE.out⟩, z5⟩ (fun h5 => ?_)
  clear hK K
  refine wpAnyH_done (by kernel_rfl) ?_ _
  refine NoPanic.normal ?_
  have Z3 := Lib.hid z3
  have Z4 := Lib.hid z4
  have Z5 := Lib.hid z5
  clear h1 h4 h5 q1 q2 q3 q4 q5 r3 r4 r5 rb rb2 z3 z4 z5
  go_wp2
  refine bodyPost_ret (v := .tuple #[.agg D, .agg E]) (results_rows2 (fn := Try.f14) (p := 2) (q := 3) (ty := 30) rfl _ _ w.heap.size (w.heap.size + 1) 30 D E (0, 0) (0, 0) _ rfl rfl Z3.out Z4.out Try.underlying30 rfl HDI.out HEI.out) rfl ⟨_, _, D, E, rfl, HD.out, HE.out, Z5.out⟩

set_option maxRecDepth 100000 in
set_option maxHeartbeats 1000000 in
theorem dBehind_any (ad : Option Addr) (len cap : Nat) (w : World) (hc : Code ad len w) :
    Calls Try.prog 24 #[.slice ad len cap] w (fun e w' => ∃ (s t : Int) (D E : Array Value), e = .returned (.tuple #[.agg D, .agg E]) ∧ Wav s D ∧ Wav t E ∧ Below w.heap.size w w') := by
  have hz37 := (zero_of_info info37').1
  have HS37 := Lib.hid (zero_of_info info37').2
  have HZ37 : Hid ((pic 0 zc).size = 65) := Lib.hid (pic_size 0 zc zc_size)
  have HZ1 := Lib.hid (zc_one 0)
  have HZW := Lib.hid (wav_zc 0)
  have hne := pic_ne
  generalize pic 0 zc = Z at *
  have HZI : Hid ((Try.prog.info? 30).map (·.size) = some Z.size) := Lib.hid (by rw [HZ37.out]; exact HS37.out)
  have HC := Lib.hid hc
  clear hc
  go_enter Try.func24, Try.ntmps24
  go_upto_region 1 with fail
  have G0 := Lib.hid (h2_0 w (.cells Z 30) (.cells Z 30))
  have G1 := Lib.hid (h2_1 w (.cells Z 30) (.cells Z 30))
  have B0 := Lib.hid (below_al2 w (.cells Z 30) (.cells Z 30))
  have C0 := Lib.hid ((HC.out.alloc (.cells Z 30)).alloc (.cells Z 30))
  have hv : ((w.alloc (.cells Z 30)).alloc (.cells Z 30)).heap.size = w.heap.size + 1 + 1 := by rw [size_al, size_al]
  generalize (w.alloc (.cells Z 30)).alloc (.cells Z 30) = v at *
  go_wp2_with fail
  refine (from_any ad len cap _ C0.out).mono ?_
  rintro e w1 ⟨p, rfl, hp, hp1, s1, b1⟩
  have hpz : w.heap.size + 1 + 1 ≤ p := by omega
  have GA := Lib.hid (show w1.heap[w.heap.size]? = some (.cells Z 30 (0, 0)) by rw [b1.block _ (by omega)]; exact G0.out)
  have GB := Lib.hid (show w1.heap[w.heap.size + 1]? = some (.cells Z 30 (0, 0)) by rw [b1.block _ (by omega)]; exact G1.out)
  have S1 := Lib.hid s1
  have B1 := Lib.hid (B0.out.trans (b1.mono B0.out.size))
  clear s1 b1 G0 G1 B0 C0 hp
  go_wp2_with fail
  refine (spoil_any p _ S1.out).mono ?_
  rintro e w4 ⟨s, D, rfl, hs16, hd, s4, o4⟩
  have HD1 := Lib.hid (wav_one hd)
  have HDI : Hid ((Try.prog.info? 30).map (·.size) = some D.size) := Lib.hid (by rw [hd.1]; exact HS37.out)
  have HZD : Hid (Z.size = D.size) := Lib.hid (by rw [hd.1]; exact HZ37.out)
  have HD := Lib.hid hd
  have OA := Lib.hid o4
  have S4 := Lib.hid s4
  clear s4 o4 hd
  have hla := (Array.getElem?_eq_some_iff.1 GA.out).1
  have hlb := (Array.getElem?_eq_some_iff.1 GB.out).1
  have GA4 := Lib.hid (show (w4.alloc (.cells D 30)).heap[w.heap.size]? = some (.cells Z 30 (0, 0)) by rw [heap_alloc_old _ _ (by have := OA.out.size; omega), OA.out.block _ hla (by omega)]; exact GA.out)
  have GB4 := Lib.hid (show (w4.alloc (.cells D 30)).heap[w.heap.size + 1]? = some (.cells Z 30 (0, 0)) by rw [heap_alloc_old _ _ (by have := OA.out.size; omega), OA.out.block _ hlb (by omega)]; exact GB.out)
  have hp4 := S4.out.lt
  have S5 := Lib.hid (S4.out.alloc (.cells D 30))
  have B5 := Lib.hid ((OA.out.alloc (.cells D 30)).after B1.out (by omega) (Nat.le_refl _))
  have D5 := Lib.hid (h1_0 w4 (.cells D 30))
  go_upto_region 3 with (refine wpList_store_row rfl 30 (.tmp 5) (.tmp 10) rfl w4.heap.size D rfl rfl 30 Z (h1_0 _ _) HDI.out HZD.out HD1.out ?_; rw [World.setRow_alloc_new])
  have KB : Hid (w4.heap.size ≠ p ∧ w4.heap.size ≠ w.heap.size + 1) := Lib.hid ⟨by omega, by have := OA.out.size; omega⟩
  have c0 : (w4.alloc (.cells D 30)).cell? ⟨w4.heap.size, 0, none⟩ = some (.int .i64 s) := by rw [cell_of_row _ _ _ _ _ _ D5.out]; exact HD.out.2.1
  generalize w4.heap.size = b at *
  generalize w4.alloc (.cells D 30) = v4 at *
  have K5 : Hid (KeptP p b w.heap.size (w.heap.size + 1) D w v4) := Lib.hid ⟨S5.out, D5.out, ⟨0, Z, GA4.out, HZW.out⟩, ⟨0, Z, GB4.out, HZW.out⟩, B5.out⟩
  clear GA GB S1 B1 OA S4 hp4 hla hlb HD1 HZD S5 D5 GA4 GB4 B5
  go_upto_region 4 with fail
  clear c0
  go_cut [20] (fun x wx => ∃ q : Bool, (q = false → side s = true) ∧ x = .bool q ∧ Hid (KeptP p b w.heap.size (w.heap.size + 1) D w wx))
  case first =>
    cases hsd : side s
    · go_wp2_with (go_at_call 62; refine (l01Side_any _ _).mono ?_; rw [hsd]; rintro e w' ⟨rfl, rfl⟩)
      go_meet
      exact ⟨true, (fun h => by cases h), rfl, K5⟩
    · go_wp2_with (go_at_call 62; refine (l01Side_any _ _).mono ?_; rw [hsd]; rintro e w' ⟨rfl, rfl⟩)
      refine (next_any p 16 _ K5.out.1).mono ?_
      rintro e w5 ⟨r, rfl, r0, r1, s5, o5⟩
      have K6 := Lib.hid (K5.out.own KB.out.1 (by omega) (by omega) (by omega) s5 o5)
      clear s5 o5 K5
      go_wp2_with fail
      go_meet
      exact ⟨_, fun _ => hsd, rfl, K6⟩
  case rest =>
  obtain ⟨q, hq, rfl, K6⟩ := hcut
  have HQS := Lib.hid hq
  clear hq K5
  go_upto_if 20 with fail
  go_cut [6] (fun x wx => ∃ n : Int, (n = 1 ∨ n = 2 ∨ n = 4 ∨ n = 8) ∧ x = .int .i64 n ∧ Hid (KeptP p b w.heap.size (w.heap.size + 1) D w wx))
  case first =>
    cases q
    · have hsd := HQS.out rfl
      go_wp2_with fail
      go_meet
      exact ⟨s, side_yes s hsd, rfl, K6⟩
    · go_wp2_with fail
      refine (drawSide_any p _ K6.out.1).mono ?_
      rintro e w6 ⟨n, rfl, hn, s6, o6⟩
      have K7 := Lib.hid (K6.out.own KB.out.1 (by omega) (by omega) (by omega) s6 o6)
      clear s6 o6 K6
      go_wp2_with fail
      go_meet
      exact ⟨n, hn, rfl, K7⟩
  case rest =>
  obtain ⟨n, hn, rfl, K7⟩ := hcut
  have K0 : Hid (KeptP p b w.heap.size (w.heap.size + 1) D w wc.drew) := Lib.hid ⟨K7.out.1.below (below_drewN (Below.refl _ _) 1), K7.out.2.1, K7.out.2.2.1, K7.out.2.2.2.1, below_drewN K7.out.2.2.2.2 1⟩
  clear K6 K7 HQS
  go_upto_region 6 with fail
  have hgp : w.heap.size ≠ p := by omega
  have hg2p : w.heap.size + 1 ≠ p := by omega
  have hbp : b ≠ p := KB.out.1
  refine wp_region_noPanic ?_
  refine wp_region_held_drew (S := KeptP p b w.heap.size (w.heap.size + 1) D w) (by kernel_rfl) K0.out (fun h1 => ?_)
  refine wpAnyH_take (i := 0) rfl (by kernel_rfl) (by kernel_rfl) (by kernel_rfl) (fun _ _ _ h => h) (yieldsP rfl (.tmp 5) rfl rfl HDI.out) h1 ?_
  simp only [Act.put]
  refine wpAnyH_take (i := 1) (v := .pointer (some ⟨p, 0, none⟩)) rfl (by kernel_rfl) (by kernel_rfl) (by kernel_rfl) (fun _ _ _ h => h) (Or.inl ⟨by rfl, fun w' hSw => by go_simp⟩) h1 ?_
  simp only [Act.put]
  refine wpAnyH_take (i := 2) (v := .pointer (some ⟨p, 0, none⟩)) rfl (by kernel_rfl) (by kernel_rfl) (by kernel_rfl) (fun _ _ _ h => h) (Or.inl ⟨by rfl, fun w' hSw => by go_simp⟩) h1 ?_
  simp only [Act.put]
  refine wpAnyH_take (i := 3) (v := .int .i64 n) rfl (by kernel_rfl) (by kernel_rfl) (by kernel_rfl) (fun _ _ _ h => h) (Or.inl ⟨by rfl, fun w' hSw => by go_simp⟩) h1 ?_
  simp only [Act.put]
  refine wpAnyH_ready (rs := [4]) (by kernel_rfl) (by simp) ?_
  refine AllReadyH.cons (o := _) rfl (fun K hK => ?_) AllReadyH.nil
  rw [if_pos (by rfl)]
  go_simp
  refine (mask_any p n hn _ h1.1).mono ?_
  rintro e u1 ⟨M, rfl, hM, s7, o7⟩
  refine hK.out _ _ (h1.own hbp hgp hg2p (by omega) s7 o7) (fun h2 => ?_)
  clear hK K
  refine wpAnyH_ready (rs := [5]) (by kernel_rfl) (by simp) ?_
  refine AllReadyH.cons (o := _) rfl (fun K hK => ?_) AllReadyH.nil
  rw [if_pos (by rfl)]
  go_simp
  refine (spoilM_any p n M hM _ h2.1).mono ?_
  rintro e u2 ⟨E, rfl, hE, s8, o8⟩
  refine hK.out _ _ (h2.own hbp hgp hg2p (by omega) s8 o8) (fun h3 => ?_)
  clear hK K
  have HE1 := wav_one hE
  have HEI : (Try.prog.info? 30).map (·.size) = some E.size := by rw [hE.1]; exact HS37.out
  obtain ⟨q1, q2, ⟨s3, Y3, q3, q3'⟩, ⟨s4, Y4, q4, q4'⟩, q5⟩ := id h3
  refine wpAnyH_ready (rs := [6]) (by kernel_rfl) (by simp) ?_
  refine AllReadyH.cons (o := _) rfl (fun K hK => ?_) AllReadyH.nil
  rw [if_pos (by rfl)]
  refine wp_store_row 30 (.tmp 2) (.tmp 23) rfl w.heap.size D rfl rfl 30 Y3 q3 HDI.out (by rw [q3'.1, HD.out.1]) (wav_one HD.out) ?_
  have r3 := setRow_heap _ _ _ D _ _ q3
  have r4 : (u2.setRow w.heap.size D).heap[w.heap.size + 1]? = some (.cells Y4 30 (0, 0)) := by rw [heap_setRow_other _ _ _ _ (by omega)]; exact q4
  have r5 := below_setRow q5 (Nat.le_refl _) D
  have rb : (u2.setRow w.heap.size D).heap[b]? = some (.cells D 30 (0, 0)) := by
    by_cases e : b = w.heap.size
    · rw [e]; exact r3
    · rw [heap_setRow_other _ _ _ _ e]; exact q2
  have rs := q1.setRow q3 hgp q3' D
  refine hK.out _ _ ⟨rs, rb, ⟨_, D, r3, HD.out⟩, ⟨s4, Y4, r4, q4'⟩, r5⟩ (fun h4 => ?_)
  clear hK K
  refine wpAnyH_ready (rs := [7]) (by kernel_rfl) (by simp) ?_
  refine AllReadyH.cons (o := _) rfl (fun K hK => ?_) AllReadyH.nil
  rw [if_pos (by rfl)]
  refine wp_store_row 30 (.tmp 3) (.tmp 28) rfl (w.heap.size + 1) E rfl rfl 30 Y4 r4 HEI (by rw [q4'.1, hE.1]) HE1 ?_
  have z4 := setRow_heap _ _ _ E _ _ r4
  have z3 : ((u2.setRow w.heap.size D).setRow (w.heap.size + 1) E).heap[w.heap.size]? = some (.cells D 30 (0, 0)) := by rw [heap_setRow_other _ _ _ _ (by omega)]; exact r3
  have z5 := below_setRow r5 (show w.heap.size ≤ w.heap.size + 1 by omega) E
  have zb : ((u2.setRow w.heap.size D).setRow (w.heap.size + 1) E).heap[b]? = some (.cells D 30 (0, 0)) := by
    rw [heap_setRow_other _ _ _ _ KB.out.2]; exact rb
  refine hK.out _ _ ⟨rs.setRow r4 hg2p q4' E, zb, ⟨_, D, z3, HD.out⟩, ⟨_, E, z4, hE⟩, z5⟩ (fun h5 => ?_)
  clear hK K
  refine wpAnyH_done (by kernel_rfl) ?_ _
  refine NoPanic.normal ?_
  have Z3 := Lib.hid z3
  have Z4 := Lib.hid z4
  have Z5 := Lib.hid z5
  clear h1 h2 h3 h4 h5 q1 q2 q3 q4 q5 r3 r4 r5 rb rs z3 z4 z5 zb
  go_wp2
  refine bodyPost_ret (v := .tuple #[.agg D, .agg E]) (results_rows2 (fn := Try.f24) (p := 2) (q := 3) (ty := 30) rfl _ _ w.heap.size (w.heap.size + 1) 30 D E (0, 0) (0, 0) _ rfl rfl Z3.out Z4.out Try.underlying30 rfl HDI.out HEI) rfl ⟨_, _, D, E, rfl, HD.out, hE, Z5.out⟩

end Go.Proofs.Ytjmfffgddmnkmab
