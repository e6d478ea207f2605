/- The draw of a map, a mask and a place. Condition: a code that can be read. -/
import Derived.Test.YtjmfffgddmnkmacFdk
namespace Go.Proofs.Ytjmfffgddmnkmac
open Go Go.RowKit

theorem own_setRow {B g : Nat} {v : Value} {L : List Int} {w : World} (h : Own B v L w) (hg : g < B) (cs : Array Value) : Own B v L (w.setRow g cs) :=
  World.ownsRow.kept h (row := some g) ⟨rfl, rfl, rfl, by rw [size_setRow]; exact Nat.le_refl _, fun k _ hne => setRow_other w g k cs (fun e => hne (by rw [e]))⟩ (.inr (fun e => by have := World.ownsRow.lt h g e; omega))
theorem run_maxi (m : Nat) (hm : 1 ≤ m) (ts : Array TypeId) (t : TypeId) (w : World) : (Builtin.max_ ts t #[.int .i64 ((m : Int) - 1), .int .i64 0]).run Try.prog w = .ok (.int .i64 ((m : Int) - 1)) w := by
  have h : ¬ ((m : Int) - 1 < 0) := by omega
  simp [Builtin.max_, Builtin.max2, h]

set_option maxRecDepth 100000 in
set_option maxHeartbeats 6400000 in
theorem drawFl_any (ad : Option Addr) (len cap : Nat) (w : World) (hc : Code ad len w) : Calls Try.prog 15 #[.slice ad len cap] w fun e w' =>
    ∃ (n : Int) (v : Value) (L : List Int) (s : Int) (D : Array Value) (y x : Int), e = .returned (.tuple #[.int .i64 n, v, .agg D, .int .i64 y, .int .i64 x]) ∧ L.length ≤ 65 ∧ Own w.heap.size v L w' ∧ Wav s D ∧ Below w.heap.size w w' := by
  have hz37 := (zero_of_info info37').1
  have HS37 := Lib.hid (zero_of_info info37').2
  have HZ37 : Hid ((pic 0 zc).size = 65) := Lib.hid (pic_size 0 zc zc_size)
  have HEA := Lib.hid (fun s W => empty_any s W)
  have HES : Hid (∀ s, (pic s zc).size = 65) := Lib.hid (fun s => pic_size s zc zc_size)
  have HE1 : Hid (∀ s, (pic s zc).all (·.oneCell') = true) := Lib.hid (fun s => zc_one s)
  have HEW : Hid (∀ s, Wav s (pic s zc)) := Lib.hid (fun s => wav_zc s)
  have HZW := Lib.hid (wav_zc 0)
  have hzo := zc_one 0
  have HZO := Lib.hid hzo
  clear hzo
  obtain ⟨PE, hPE⟩ : ∃ f : Int → Array Value, f = fun s => pic s zc := ⟨_, rfl⟩
  have e1 : ∀ s, pic s zc = PE s := fun s => by rw [hPE]
  have HEA2 : Hid (∀ s W, Calls Try.prog 52 #[.int .i64 s] W fun e w' => e = .returned (.agg (PE s)) ∧ Below W.heap.size W w') := Lib.hid (fun s W => (HEA.out s W).mono fun e w' h => by
    obtain ⟨h1, h2⟩ := h
    refine ⟨by rw [h1, e1], ?_⟩
    rw [h2]
    exact (Below.refl W.heap.size W).alloc (Nat.le_refl _) _)
  have HES2 : Hid (∀ s, (PE s).size = 65) := Lib.hid (fun s => by rw [← e1]; exact HES.out s)
  have HE12 : Hid (∀ s, (PE s).all (·.oneCell') = true) := Lib.hid (fun s => by rw [← e1]; exact HE1.out s)
  have HEW2 : Hid (∀ s, Wav s (PE s)) := Lib.hid (fun s => by rw [← e1]; exact HEW.out s)
  clear HEA HES HE1 HEW e1 hPE
  have hne := pic_ne
  generalize pic 0 zc = Z at *
  have HZI : Hid ((Try.prog.info? 33).map (·.size) = some Z.size) := Lib.hid (by rw [HZ37.out]; exact HS37.out)
  have HCO := Lib.hid (hc.alloc (.cells Z 33))
  have B0 : Hid (Below w.heap.size w (w.alloc (.cells Z 33))) := Lib.hid ((Below.refl _ _).alloc (Nat.le_refl _) _)
  have Z0 : Hid ((w.alloc (.cells Z 33)).heap[w.heap.size]? = some (.cells Z 33 (0, 0))) := Lib.hid (h1_0 _ _)
  have HS1 : Hid ((w.alloc (.cells Z 33)).heap.size = w.heap.size + 1) := Lib.hid (World.size_alloc _ _)
  clear hc
  go_enter Try.func15, Try.ntmps15
  go_upto_region 1 with fail
  generalize w.alloc (.cells Z 33) = v0 at *
  go_wp2_with fail
  refine (from_any ad len cap v0 HCO.out).mono ?_
  rintro e w1 ⟨p, rfl, hp, hp2, s1, b1⟩
  have HPB : Hid (w.heap.size < p) := Lib.hid (by have := HS1.out; omega)
  have B1 := Lib.hid (B0.out.trans (b1.mono B0.out.size))
  have Z1 : Hid (w1.heap[w.heap.size]? = some (.cells Z 33 (0, 0))) := Lib.hid ((b1.block w.heap.size (by have := HS1.out; omega)).trans Z0.out)
  have HW1 : Hid (w.heap.size < w1.heap.size) := Lib.hid (Array.getElem?_eq_some_iff.1 Z1.out).1
  have S1 := Lib.hid s1
  clear s1 b1 HCO B0 Z0
  go_wp2_with fail
  refine (l07Map_any p true w1 S1.out).mono ?_
  rintro e w2 ⟨n, v, L, rfl, hL, o2, s2, t2, _⟩
  obtain ⟨a, c, rfl, _⟩ := o2.came
  have HL := Lib.hid hL
  have O2 := Lib.hid (o2.mono B1.out.size)
  have S2 := Lib.hid s2
  have T2 := Lib.hid t2
  have HOB := Lib.hid o2
  clear o2 s2 t2 hL S1
  have HSB : Hid (∀ u, Trn p w2 u → Own (w.heap.size + 1) (.slice a L.length c) L u) := Lib.hid (fun u o => (HOB.out.trn o hp2).mono HW1.out)
  have A2 : Hid (Trn p w2 w2) := Lib.hid (Trn.refl _ _)
  have HBW : Hid (∀ u, Trn p w2 u → Below w.heap.size w u) := Lib.hid (fun u o => (T2.out.trans o).after B1.out (Nat.le_of_lt HPB.out) (Nat.le_refl _))
  have HZB : Hid (∀ u, Trn p w2 u → u.heap[w.heap.size]? = some (.cells Z 33 (0, 0))) := Lib.hid (fun u o => ((T2.out.trans o).block w.heap.size HW1.out (by have := HPB.out; omega)).trans Z1.out)
  have HPZ : Hid (p < w2.heap.size) := Lib.hid S2.out.lt
  clear O2 T2 HOB hp hp2 Z1
  go_upto_region 4 with fail
  go_cut [29] (fun q wx => ∃ bb, q = .bool bb ∧ Hid (bb = false → side n = true) ∧ Hid (Src p wx) ∧ Hid (Trn p w2 wx))
  case first =>
    go_wp2_with fail
    refine (l01Side_any n _).mono ?_
    cases hs : side n
    · rintro e w3 ⟨rfl, rfl⟩
      go_wp2_with fail
      go_meet
      exact ⟨true, rfl, Lib.hid (fun h => by cases h), S2, A2⟩
    · rintro e w3 ⟨rfl, rfl⟩
      have HSN := Lib.hid hs
      clear hs
      go_wp2_with fail
      refine (next_any p 20 _ S2.out).mono ?_
      rintro e w4 ⟨r, rfl, _, _, s4, o4⟩
      have S4 := Lib.hid s4
      have A4 := Lib.hid (A2.out.trans o4)
      clear s4 o4
      go_wp2_with fail
      go_meet
      exact ⟨_, rfl, Lib.hid (fun _ => HSN.out), S4, A4⟩
  case rest =>
  obtain ⟨bb, rfl, HBB, S3, A3⟩ := hcut
  clear S2 A2
  go_upto_if 29 with fail
  go_cut [10] (fun q wx => ∃ s : Int, q = .int .i64 s ∧ Hid (s = 1 ∨ s = 2 ∨ s = 4 ∨ s = 8) ∧ Hid (Src p wx) ∧ Hid (Trn p w2 wx))
  case first =>
    cases bb
    · go_wp2_with fail
      go_meet
      exact ⟨n, rfl, Lib.hid (side_yes n (by first | exact HBB.out rfl | exact HBB.out trivial)), S3, A3⟩
    · go_wp2_with fail
      refine (drawSide_any p _ S3.out).mono ?_
      rintro e w4 ⟨s, rfl, hs, s4, o4⟩
      have S4 := Lib.hid s4
      have A4 := Lib.hid (A3.out.trans o4)
      clear s4 o4
      go_wp2_with fail
      go_meet
      exact ⟨s, rfl, Lib.hid hs, S4, A4⟩
  case rest =>
  obtain ⟨s, rfl, HSD, S4, A4⟩ := hcut
  clear S3 A3 HBB
  obtain ⟨m, rfl, hm1, hm8, N, hN, hN64⟩ : ∃ m : Nat, s = m ∧ 1 ≤ m ∧ m ≤ 8 ∧ ∃ N : Nat, IntKind.i64.wrap (s * s) = (N : Int) ∧ N ≤ 64 := by
    rcases HSD.out with rfl | rfl | rfl | rfl
    · exact ⟨1, rfl, by omega, by omega, 1, rfl, by omega⟩
    · exact ⟨2, rfl, by omega, by omega, 4, rfl, by omega⟩
    · exact ⟨4, rfl, by omega, by omega, 16, rfl, by omega⟩
    · exact ⟨8, rfl, by omega, by omega, 64, rfl, by omega⟩
  go_wp2_with (go_at_call 52; fail)
  refine (HEA2.out _ _).mono ?_
  rintro e w5 ⟨rfl, b5⟩
  have S5 := Lib.hid (S4.out.keptI b5 S4.out.lt)
  have A5 := Lib.hid (A4.out.trans ⟨b5.os, b5.tape, b5.output, b5.size, fun k hk _ => b5.block k hk⟩)
  have HE0 := Lib.hid (HEW2.out (m : Int))
  have HEsz := Lib.hid (HES2.out (m : Int))
  have HEone := Lib.hid (HE12.out (m : Int))
  clear b5 S4 A4 HEA2 HES2 HE12 HEW2
  generalize PE (m : Int) = E at *
  have HEI : Hid ((Try.prog.info? 33).map (·.size) = some E.size) := Lib.hid (by rw [HEsz.out]; exact HS37.out)
  have HZE : Hid (Z.size = E.size) := Lib.hid (by rw [HZ37.out, HEsz.out])
  go_wp2_with (refine wpList_store_row rfl 33 (.tmp 11) (.tmp 33) rfl w5.heap.size E rfl rfl 33 Z (h1_0 _ _) HEI.out HZE.out HEone.out ?_; rw [World.setRow_alloc_new])
  have HP5 : Hid (w5.heap.size ≠ p) := Lib.hid (by have := S5.out.lt; omega)
  have L0 : Hid (Lies p (m : Int) w2 w5.heap.size (w5.alloc (.cells E 33))) := Lib.hid ⟨E, h1_0 _ _, HE0.out, S5.out.alloc _, A5.out.alloc _⟩
  have HG5 : Hid (w2.heap.size ≤ w5.heap.size) := Lib.hid A5.out.size
  generalize w5.alloc (.cells E 33) = w6 at *
  generalize hgg : w5.heap.size = g at *
  go_loopw [12] (fun i wr => ∃ k : Nat, k ≤ N ∧ i = .int .i64 k ∧ Hid (Lies p (m : Int) w2 g wr)) (fun i _ => N - (intOf i).toNat)
  case atStart => exact ⟨0, by omega, rfl, L0⟩
  case round =>
    clear L0 S5 A5
    obtain ⟨k, hk, rfl, LL⟩ := hrel
    by_cases hlt : k < N
    · have hdk : decide ((k : Int) < (N : Int)) = true := by simp; omega
      go_wp2_with fail
      refine (next_any p 5 _ (LL.out.elim fun _ h => h.2.2.1)).mono ?_
      rintro e9 w9 ⟨q, rfl, q0, q1, s9, o9⟩
      have L9 := Lib.hid (Lies.own LL.out HP5.out s9 o9)
      clear s9 o9
      obtain ⟨cx, cy, hcell⟩ := L9.out.cell k (by omega)
      have hfree := L9.out.free k
      have hk64 : (k : Int) < 64 := by omega
      by_cases hq : q > 0
      · have hdq : decide (q > 0) = true := by simpa using hq
        go_wp2_with fail
        exact ⟨⟨k + 1, by omega, by go_num, Lib.hid (L9.out.set HP5.out HG5.out k _ _)⟩, by simp [intOf]; omega⟩
      · have hdq : decide (q > 0) = false := by simpa using hq
        go_wp2_with fail
        exact ⟨⟨k + 1, by omega, by go_num, L9⟩, by simp [intOf]; omega⟩
    · obtain rfl : k = N := by omega
      obtain ⟨D, hgD, hd, sD, oD⟩ := LL.out
      have GD := Lib.hid hgD
      have HD1 := Lib.hid (wav_one hd)
      have HDI : Hid ((Try.prog.info? 33).map (·.size) = some D.size) := Lib.hid (by rw [hd.1]; exact HS37.out)
      have SD := Lib.hid sD
      have OD := Lib.hid oD
      have HD := Lib.hid hd
      have hmw : IntKind.i64.wrap ((m : Int) - 1) = (m : Int) - 1 := IntWalk.i64_in _ (by omega)
      have hmx := fun ts t w => run_maxi m hm1 ts t w
      clear hgD hd sD oD hz37 LL
      go_wp2_with (first | (refine wpList_load_row rfl 33 (.tmp 11) rfl g rfl 33 D (0, 0) _ GD.out Try.underlying33 rfl HDI.out ?_) | (go_at_call 53; fail))
      refine (spoilM_any p (m : Int) D HD.out _ SD.out).mono ?_
      rintro e w7 ⟨C, rfl, hC, s7, o7⟩
      have S7 := Lib.hid s7
      have A7 := Lib.hid (OD.out.trans o7)
      have HC := Lib.hid hC
      have HC1 := Lib.hid (wav_one hC)
      have HCI : Hid ((Try.prog.info? 33).map (·.size) = some C.size) := Lib.hid (by rw [hC.1]; exact HS37.out)
      have HZC : Hid (Z.size = C.size) := Lib.hid (by rw [hC.1]; exact HZ37.out)
      clear s7 o7 hC SD OD GD
      go_wp2_with (go_at_call 55; fail)
      refine (nearI_any p ((m : Int) - 1) (by omega) (by omega) _ S7.out).mono ?_
      rintro e w8 ⟨q1, rfl, _, s8, o8⟩
      have S8 := Lib.hid s8
      have A8 := Lib.hid (A7.out.trans o8)
      clear s8 o8 S7 A7
      go_wp2_with (go_at_call 54; fail)
      refine (pick_lit p [0, q1] w8 S8.out (by simp) (by simp)).mono ?_
      rintro e w9 ⟨y, _, rfl, s9, o9⟩
      have S9 := Lib.hid s9
      have A9 := Lib.hid (A8.out.trans o9)
      clear s9 o9 S8 A8
      have hmw2 : IntKind.i64.wrap ((m : Int) - 1 + 1) = (m : Int) := (IntWalk.i64_in _ (by omega)).trans (by omega)
      go_wp2_with (go_at_call 50; fail)
      refine (next_any p _ _ S9.out).mono ?_
      rintro e w10 ⟨q2, rfl, _, _, s10, o10⟩
      have S10 := Lib.hid s10
      have A10 := Lib.hid (A9.out.trans o10)
      clear s10 o10 S9 A9
      go_wp2_with (go_at_call 54; fail)
      refine (pick_lit p [0, q2] w10 S10.out (by simp) (by simp)).mono ?_
      rintro e w11 ⟨x, _, rfl, s11, o11⟩
      have A11 := Lib.hid (A10.out.trans o11)
      have GZ := Lib.hid (HZB.out _ A11.out)
      clear s11 o11 S10 A10
      go_wp2_with (refine wpList_store_row rfl 33 (.tmp 4) (.tmp 54) rfl w.heap.size C rfl rfl 33 Z GZ.out HCI.out HZC.out HC1.out ?_)
      refine bodyPost_ret (v := .tuple #[.int .i64 n, .slice a L.length c, .agg C, .int .i64 y, .int .i64 x]) (results_five (fn := Try.f15) (t1 := 2) (t2 := 3) (p := 4) (t3 := 5) (t4 := 6) (ty := 33) rfl _ _ w.heap.size 33 C (0, 0) _ rfl (setRow_heap _ _ _ _ _ _ GZ.out) Try.underlying33 rfl HCI.out) rfl ⟨n, _, L, _, C, y, x, rfl, HL.out, ?_, HC.out, ?_⟩
      · exact (own_setRow (HSB.out _ A11.out) (Nat.lt_succ_self _) C).mono (Nat.le_succ _)
      · exact below_setRow (HBW.out _ A11.out) (Nat.le_refl _) _

end Go.Proofs.Ytjmfffgddmnkmac
