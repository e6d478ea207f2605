/- The model's union of two masks. Condition: 64 complex numbers each. -/
import Derived.Test.YtjmfffgddmnkmabSn
import Derived.Deep.CutBlock
import Derived.Deep.DeepCutAuto
import Derived.Deep.RegionHeld3
namespace Go.Proofs.Ytjmfffgddmnkmab
open Go Go.RowKit

/-- waves that lie, behind one that may be any -/
def LayU (z : Nat) (L : List (Nat × Array Value)) (w w' : World) : Prop := ∃ Y : Array Value, Y.size = 65 ∧ Lay ((z, Y) :: L) w w'
theorem LayU.below {z : Nat} {L : List (Nat × Array Value)} {w a c : World} (h : LayU z L w a) (b : Below a.heap.size a c) : LayU z L w c := by
  obtain ⟨Y, hY, h⟩ := h
  exact ⟨Y, hY, h.below b⟩
/-- a load of a wave that lies, in a region that draws its order -/
theorem yields_lay {ops : Array Oper} {z : Nat} {L : List (Nat × Array Value)} {w0 : World} {op : Oper} {a : Act} (hw : Region.wanted op (yielded ops a.tmps) = true) (x : Operand) (ho : op.op = .load 30 x)
    (i b : Nat) (D : Array Value) (hx : a.eval x = .pointer (some ⟨b, 0, none⟩)) (hi : L[i]? = some (b, D)) (hD : (Try.prog.info? 30).map (·.size) = some D.size) : YieldsIf Try.prog ops (LayU z L w0) op (.agg D) a :=
  .inl ⟨hw, fun w hw' => by
    obtain ⟨Y, _, hl⟩ := hw'
    unfold execOp
    simp only [ho, hx, Instr.loadAt, Instr.sureAddr, Sem.run_bind, Sem.run_pure, Result.andThen_ok, run_loadVar_row w b 30 30 D (0, 0) _ (hl.pop.at i hi) Try.underlying30 rfl hD]⟩

/-- the cells of the model's union -/
def uni (s : Nat) (D E : Array Value) : Array Value := cpl (bhd (cpl D (s * s)) (cpl E (s * s)) 64) (s * s)
set_option maxRecDepth 100000 in
set_option maxHeartbeats 1000000 in
theorem specUnionOf_yes (s : Nat) (hs : side s = true) (D E : Array Value) (hD : Wav s D) (hE : Wav s E) (hc : twoCode s s D E = 0) (m1 : mks D 64 = true) (m2 : mks E 64 = true) (m3 : mks (bhd (cpl D (s * s)) (cpl E (s * s)) 64) 64 = true) (w : World) : Calls Try.prog 16 #[.agg D, .agg E] w fun e w' => e = .returned (.tuple #[.agg (uni s D E), .int .i64 0]) ∧ Below w.heap.size w w' := by
  unfold uni
  have hz37 := (zero_of_info info37').1
  have HS37 := Lib.hid (zero_of_info info37').2
  have HZ37 : Hid ((pic 0 zc).size = 65) := Lib.hid (pic_size 0 zc zc_size)
  have HZ1 := Lib.hid (zc_one 0)
  have HZW := Lib.hid (wav_zc 0)
  have hne := pic_ne
  generalize pic 0 zc = Z at *
  have HZI : Hid ((Try.prog.info? 30).map (·.size) = some Z.size) := Lib.hid (by rw [HZ37.out]; exact HS37.out)
  have HDI : Hid ((Try.prog.info? 30).map (·.size) = some D.size) := Lib.hid (by rw [hD.1]; exact HS37.out)
  have HEI : Hid ((Try.prog.info? 30).map (·.size) = some E.size) := Lib.hid (by rw [hE.1]; exact HS37.out)
  have HT := Lib.hid (specTwo_any s s D E hD hE)
  rw [hc] at HT
  have wD := cpl_wav s D hD (s * s)
  have wE := cpl_wav s E hE (s * s)
  have wB := bhd_wav s (cpl D (s * s)) (cpl E (s * s)) wD 64
  have HA := Lib.hid (specCpl_any s hs D hD m1)
  have HAE := Lib.hid (specCpl_any s hs E hE m2)
  have HB := Lib.hid (specBhd_any s s _ _ wD wE)
  have HC := Lib.hid (specCpl_any s hs _ wB m3)
  have HGW := Lib.hid (cpl_wav s _ wB (s * s))
  generalize cpl (bhd (cpl D (s * s)) (cpl E (s * s)) 64) (s * s) = G at *
  generalize bhd (cpl D (s * s)) (cpl E (s * s)) 64 = B at *
  generalize cpl D (s * s) = P at *
  generalize cpl E (s * s) = Q at *
  have HGI : Hid ((Try.prog.info? 30).map (·.size) = some G.size) := Lib.hid (by rw [HGW.out.1]; exact HS37.out)
  have HZG : Hid (Z.size = G.size) := Lib.hid (by rw [HGW.out.1]; exact HZ37.out)
  have HG1 := Lib.hid (wav_one HGW.out)
  clear hD hE hc m1 m2 m3 wD wE wB
  go_enter Try.func16, Try.ntmps16
  go_upto_region 1 with fail
  have L0 := Lib.hid (lay3 w D E Z)
  generalize ((w.alloc (.cells D 30)).alloc (.cells E 30)).alloc (.cells Z 30) = v at *
  go_wp2_with (first | (refine wpList_load_row rfl 30 (.tmp 2) rfl w.heap.size rfl 30 D (0, 0) _ (L0.out.at 2 rfl) Try.underlying30 rfl HDI.out ?_) | (refine wpList_load_row rfl 30 (.tmp 3) rfl (w.heap.size + 1) rfl 30 E (0, 0) _ (L0.out.at 1 rfl) Try.underlying30 rfl HEI.out ?_) | (go_at_call 70; fail))
  refine (HT.out _).mono ?_
  rintro e w1 ⟨rfl, b1⟩
  have L1 := Lib.hid (L0.out.below b1)
  clear b1 L0
  go_upto_region 4 with fail
  have K0 : LayU (w.heap.size + 1 + 1) [(w.heap.size + 1, E), (w.heap.size, D)] w w1.drew := ⟨Z, HZ37.out, L1.out.drewN 1⟩
  refine wp_region_noPanic ?_
  refine wp_region_held_drew (S := LayU (w.heap.size + 1 + 1) [(w.heap.size + 1, E), (w.heap.size, D)] w) (by kernel_rfl) K0 (fun h1 => ?_)
  clear K0
  refine wpAnyH_take (i := 0) rfl (by kernel_rfl) (by kernel_rfl) (by kernel_rfl) (fun _ _ _ h => h) (yields_lay rfl (.tmp 2) rfl 1 w.heap.size D rfl rfl HDI.out) h1 ?_
  simp only [Act.put]
  refine wpAnyH_take (i := 2) rfl (by kernel_rfl) (by kernel_rfl) (by kernel_rfl) (fun _ _ _ h => h) (yields_lay rfl (.tmp 3) rfl 0 (w.heap.size + 1) E rfl rfl HEI.out) h1 ?_
  simp only [Act.put]
  generalize w1.drew = u0 at *
  refine wpAnyH_ready (rs := [1]) (by kernel_rfl) (by simp) ?_
  refine AllReadyH.cons (o := _) rfl (fun K hK => ?_) AllReadyH.nil
  rw [if_pos (by rfl)]
  go_simp
  refine (HA.out _).mono ?_
  rintro e u1 ⟨rfl, bu1⟩
  refine hK.out _ _ (h1.below bu1) (fun h2 => ?_)
  clear hK K
  refine wpAnyH_ready (rs := [3]) (by kernel_rfl) (by simp) ?_
  refine AllReadyH.cons (o := _) rfl (fun K hK => ?_) AllReadyH.nil
  rw [if_pos (by rfl)]
  go_simp
  refine (HAE.out _).mono ?_
  rintro e u2 ⟨rfl, bu2⟩
  refine hK.out _ _ (h2.below bu2) (fun h3 => ?_)
  clear hK K
  refine wpAnyH_ready (rs := [4]) (by kernel_rfl) (by simp) ?_
  refine AllReadyH.cons (o := _) rfl (fun K hK => ?_) AllReadyH.nil
  rw [if_pos (by rfl)]
  go_simp
  refine (HB.out _).mono ?_
  rintro e u3 ⟨rfl, bu3⟩
  refine hK.out _ _ (h3.below bu3) (fun h4 => ?_)
  clear hK K
  refine wpAnyH_ready (rs := [5]) (by kernel_rfl) (by simp) ?_
  refine AllReadyH.cons (o := _) rfl (fun K hK => ?_) AllReadyH.nil
  rw [if_pos (by rfl)]
  go_simp
  refine (HC.out _).mono ?_
  rintro e u4 ⟨rfl, bu4⟩
  refine hK.out _ _ (h4.below bu4) (fun h5 => ?_)
  clear hK K
  refine wpAnyH_ready (rs := [6]) (by kernel_rfl) (by simp) ?_
  refine AllReadyH.cons (o := _) rfl (fun K hK => ?_) AllReadyH.nil
  rw [if_pos (by rfl)]
  obtain ⟨Y5, hY5, g5⟩ := id h5
  refine wp_store_row 30 (.tmp 4) (.tmp 19) rfl (w.heap.size + 1 + 1) G rfl rfl 30 Y5 (g5.at 0 rfl) HGI.out (by rw [hY5]; exact (HZ37.out.symm.trans HZG.out)) HG1.out ?_
  have K6 : Lay [(w.heap.size + 1 + 1, G), (w.heap.size + 1, E), (w.heap.size, D)] w (u4.setRow (w.heap.size + 1 + 1) G) := g5.setRow (by omega) (by intro p hp; simp at hp; rcases hp with rfl | rfl <;> simp <;> omega) G
  refine hK.out _ _ ⟨G, HZG.out.symm.trans HZ37.out, K6⟩ (fun h6 => ?_)
  clear hK K
  refine wpAnyH_take (i := 7) (v := .int .i64 0) rfl (by kernel_rfl) (by kernel_rfl) (by kernel_rfl) (fun _ _ _ h => h) (Or.inl ⟨by rfl, fun w' hSw => by go_simp⟩) h6 ?_
  refine (show wpAnyH _ _ _ _ _ _ _ (Act.put _ (some 5) _) _ from ?_)
  simp only [Act.put]
  refine wpAnyH_done (by kernel_rfl) ?_ _
  refine NoPanic.normal ?_
  have K7 := Lib.hid K6
  clear h1 h2 h3 h4 h5 h6 g5 K6
  go_wp2
  refine bodyPost_ret (v := .tuple #[.agg G, .int .i64 0]) (results_row_tmp (fn := Try.f16) (p := 4) (u := 5) (ty := 30) rfl _ _ (w.heap.size + 1 + 1) 30 G (0, 0) _ rfl (K7.out.at 0 rfl) Try.underlying30 rfl HGI.out) rfl ⟨rfl, K7.out.2⟩

end Go.Proofs.Ytjmfffgddmnkmab
