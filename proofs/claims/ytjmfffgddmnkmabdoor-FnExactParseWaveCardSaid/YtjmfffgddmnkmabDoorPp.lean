/- The program's ParseWave: the wave that the text tells, or none. Condition: what the library's variables hold, and texts up to 2^20 bytes. -/
import Derived.Test.YtjmfffgddmnkmabDoorPc
import Derived.Test.YtjmfffgddmnkmabDoorRe
import Derived.Lib.SplitLaws
namespace Go.Proofs.YtjmfffgddmnkmabDoor
open Go Go.RowKit

set_option maxRecDepth 100000 in
set_option maxHeartbeats 4000000 in
theorem implPW_any (s : ByteArray) (hs : s.size ≤ 1048576) (w : World) (hw : Env w) : Calls Tryd.prog 8 #[.string s] w fun e w' =>
    e = .returned (.tuple #[.agg (pic (sideR (readOf s.data.toList)) (cellsR (readOf s.data.toList))), .int .i64 (codeR (readOf s.data.toList))]) ∧ Below w.heap.size w w' := by
  have hz37 := (zero_of_info info37').1
  have HS37 := Lib.hid (zero_of_info info37').2
  have HZ37 : Hid ((pic 0 zc).size = 65) := Lib.hid (pic_size 0 zc zc_size)
  have HZ1 := Lib.hid (zc_one 0)
  have hne := pic_ne
  obtain ⟨Z, HZZ⟩ : ∃ Z, Hid (Z = pic 0 zc) := ⟨_, Lib.hid rfl⟩
  rw [← HZZ.out] at hz37 HZ37 HZ1 hne
  have HZI : Hid ((Tryd.prog.info? 25).map (·.size) = some Z.size) := Lib.hid (by rw [HZ37.out]; exact HS37.out)
  have hrp := read_prog s.data.toList
  obtain ⟨hl1, hl2⟩ := cut_sizes 58 s.data.toList
  have HC : Hid (∀ w, Env w → Calls Tryd.prog 19 #[.string s, .string ⟨#[58]⟩] w fun e w' => e = .returned (.tuple #[.string ⟨(Lib.cut s.data.toList [58]).1.toArray⟩, .string ⟨(Lib.cut s.data.toList [58]).2.1.toArray⟩, .bool (Lib.cut s.data.toList [58]).2.2]) ∧ ∃ n, w' = w.drewN n) := Lib.hid fun w hw => by
    obtain ⟨m, hm⟩ := hw.maxLen
    exact Tryd.strings_Cut s ⟨#[58]⟩ m w (by omega) hm
  obtain ⟨A, hA⟩ : ∃ A : ByteArray, A = ⟨(Lib.cut s.data.toList [58]).1.toArray⟩ := ⟨_, rfl⟩
  obtain ⟨B, hB⟩ : ∃ B : ByteArray, B = ⟨(Lib.cut s.data.toList [58]).2.1.toArray⟩ := ⟨_, rfl⟩
  have hAl : A.data.toList = (Lib.cut s.data.toList [58]).1 := by rw [hA]
  have hBl : B.data.toList = (Lib.cut s.data.toList [58]).2.1 := by rw [hB]
  rw [← hA, ← hB] at HC
  rw [← hAl, ← hBl] at hrp
  have hA1 : A.size ≤ 1048576 := by rw [Lib.size_eq, hAl]; rw [← Lib.size_eq] at hl1; omega
  have hB1 : B.size ≤ 1048576 := by rw [Lib.size_eq, hBl]; rw [← Lib.size_eq] at hl2; omega
  have HPA : Hid (∀ w, Env w → Calls Tryd.prog 20 #[.string A, .int .i64 10] w fun e w' => e = .returned (pairOf (numOf 10 A.data.toList)) ∧ Below w.heap.size w w') := Lib.hid fun w hw => parseInteger_any 10 (.inr rfl) A (by omega) w hw
  have HSP : Hid (∀ w, Env w → Calls Tryd.prog 22 #[.string B, .string ⟨#[32]⟩] w fun e w' => e = .returned (.slice (some ⟨w.heap.size, 0, none⟩) (Lib.countB B ⟨#[32]⟩ + 1) (Lib.countB B ⟨#[32]⟩ + 1)) ∧ w' = w.alloc (.cells ((Lib.splitB ⟨#[32]⟩ 0 (Lib.countB B ⟨#[32]⟩) B).map Value.string).toArray 9)) := Lib.hid fun w hw => by
    obtain ⟨m, hm⟩ := hw.maxLen
    exact Tryd.strings_Split B ⟨#[32]⟩ m w (by omega) hm (by decide)
  have hwl : (Lib.splitB ⟨#[32]⟩ 0 (Lib.countB B ⟨#[32]⟩) B).length = Lib.countB B ⟨#[32]⟩ + 1 := Lib.splitB_all ⟨#[32]⟩ (by decide) 0 _ B rfl
  have hws := splitB_sp 32 B
  rw [← hwl] at HSP
  generalize Lib.splitB ⟨#[32]⟩ 0 (Lib.countB B ⟨#[32]⟩) B = ws at *
  have HU : Hid (∀ k u, ws[k]? = some u → u.size ≤ 1048576 ∧ (sp 32 B.data.toList).getD k [] = u.data.toList) := Lib.hid (by
    intro k u hk
    have hm : (sp 32 B.data.toList)[k]? = some u.data.toList := by rw [← hws, List.getElem?_map, hk]; rfl
    refine ⟨?_, by rw [List.getD_eq_getElem?_getD, hm]; rfl⟩
    have := sp_len 32 B.data.toList u.data.toList (List.mem_of_getElem? hm)
    rw [← Lib.size_eq, ← Lib.size_eq] at this
    omega)
  have HL : Hid (ws.length = (sp 32 B.data.toList).length) := Lib.hid (by rw [← hws, List.length_map])
  obtain ⟨L, hLL⟩ : ∃ L, L = sp 32 B.data.toList := ⟨_, rfl⟩
  rw [← hLL] at hrp HU HL
  have HRP := Lib.hid hrp
  have HWE := Lib.hid hw
  obtain ⟨va, ea, pa⟩ := pairOf_form (numOf 10 A.data.toList)
  rw [ea] at HPA
  have hhs : ((numOf 10 A.data.toList).isSome && side va) = (sideOf A.data.toList).isSome := by
    rw [← head_side]
    unfold headOf
    cases h : numOf 10 A.data.toList with
    | none => rfl
    | some v => rw [pa v h]; rfl
  have hvn : ∀ n, sideOf A.data.toList = some n → va = (n : Int) := fun n hn => pa _ (side_num _ _ hn).1
  have HVN := Lib.hid hvn
  have HHS := Lib.hid hhs
  clear hl1 hl2 hA hB hAl hBl hA1 hB1 hwl hws hLL hrp hw ea pa hhs hvn
  generalize (numOf 10 A.data.toList).isSome = q at *
  generalize (Lib.cut s.data.toList [58]).2.2 = f at *
  go_enter Tryd.func8, Tryd.ntmps8
  have HWA : Hid (Env (w.alloc (.cells Z 25))) := Lib.hid (HWE.out.below (below_al _ _))
  go_wp2_with fail
  refine (HC.out _ HWA.out).mono ?_
  rintro e w1 ⟨rfl, n1, rfl⟩
  have G1 : Hid (((w.alloc (.cells Z 25)).drewN n1).heap[w.heap.size]? = some (.cells Z 25 (0, 0))) := Lib.hid (h1_0 _ _)
  have B1 : Hid (Below w.heap.size w ((w.alloc (.cells Z 25)).drewN n1)) := Lib.hid (below_drewN (below_al _ _) n1)
  generalize (w.alloc (.cells Z 25)).drewN n1 = w1 at *
  go_wp2_with fail
  refine (HPA.out w1 (HWE.out.below B1.out)).mono ?_
  rintro e w3 ⟨rfl, b3⟩
  have B3 : Hid (Below w.heap.size w w3) := Lib.hid (B1.out.trans (b3.mono B1.out.size))
  have G3 : Hid (w3.heap[w.heap.size]? = some (.cells Z 25 (0, 0))) := Lib.hid (heap_below b3 G1.out)
  clear b3 G1 B1 HWA HPA HC
  cases f
  · have HR : Hid (readOf s.data.toList = none) := Lib.hid (by rw [HRP.out]; rfl)
    clear HRP HVN HHS
    go_wp2_with (refine wpList_store_row rfl 25 (.tmp 2) (.tmp 37) rfl w.heap.size Z rfl rfl 25 Z G3.out HZI.out rfl HZ1.out ?_)
    refine bodyPost_ret (v := .tuple #[.agg Z, .int .i64 6]) (results_row_tmp (fn := Tryd.f8) (p := 2) (u := 3) (ty := 25) rfl _ _ w.heap.size 25 Z (0, 0) _ rfl (setRow_heap _ _ _ _ _ _ G3.out) Tryd.underlying25 rfl HZI.out) rfl ⟨by rw [HR.out, HZZ.out]; rfl, ?_⟩
    exact below_setRow B3.out (Nat.le_refl _) _
  have HS0 : Hid (sideOf A.data.toList = none → readOf s.data.toList = none) := Lib.hid (fun h => by rw [HRP.out, h]; rfl)
  cases q
  · have HR : Hid (readOf s.data.toList = none) := Lib.hid (HS0.out (by
      have h := HHS.out
      cases h2 : sideOf A.data.toList with
      | none => rfl
      | some n => rw [h2] at h; cases h))
    clear HRP HVN HHS HS0
    go_wp2_with (refine wpList_store_row rfl 25 (.tmp 2) (.tmp 37) rfl w.heap.size Z rfl rfl 25 Z G3.out HZI.out rfl HZ1.out ?_)
    refine bodyPost_ret (v := .tuple #[.agg Z, .int .i64 6]) (results_row_tmp (fn := Tryd.f8) (p := 2) (u := 3) (ty := 25) rfl _ _ w.heap.size 25 Z (0, 0) _ rfl (setRow_heap _ _ _ _ _ _ G3.out) Tryd.underlying25 rfl HZI.out) rfl ⟨by rw [HR.out, HZZ.out]; rfl, ?_⟩
    exact below_setRow B3.out (Nat.le_refl _) _
  cases hsv : side va with
  | false =>
    have HR : Hid (readOf s.data.toList = none) := Lib.hid (HS0.out (by
      have h := HHS.out
      cases h2 : sideOf A.data.toList with
      | none => rfl
      | some n => rw [h2, hsv] at h; cases h))
    have HSI : Hid (∀ w, Calls Tryd.prog 21 #[.int .i64 va] w fun e w' => e = .returned (.bool false) ∧ w = w') := Lib.hid (fun w => by have h := isSide_any va w; rw [hsv] at h; exact h)
    clear HRP HVN HHS HS0 hsv
    go_wp2_with fail
    refine (HSI.out _).mono ?_
    rintro e w' ⟨rfl, rfl⟩
    go_wp2_with (refine wpList_store_row rfl 25 (.tmp 2) (.tmp 37) rfl w.heap.size Z rfl rfl 25 Z G3.out HZI.out rfl HZ1.out ?_)
    refine bodyPost_ret (v := .tuple #[.agg Z, .int .i64 6]) (results_row_tmp (fn := Tryd.f8) (p := 2) (u := 3) (ty := 25) rfl _ _ w.heap.size 25 Z (0, 0) _ rfl (setRow_heap _ _ _ _ _ _ G3.out) Tryd.underlying25 rfl HZI.out) rfl ⟨by rw [HR.out, HZZ.out]; rfl, ?_⟩
    exact below_setRow B3.out (Nat.le_refl _) _
  | true =>
    obtain ⟨n, hsd⟩ : ∃ n, sideOf A.data.toList = some n := by
      have h := HHS.out
      cases h2 : sideOf A.data.toList with
      | none => rw [h2, hsv] at h; cases h
      | some n => exact ⟨n, rfl⟩
    obtain rfl := HVN.out n hsd
    obtain ⟨n1, n8, hside, _⟩ := sideOf_small _ _ hsd
    have HR0 : Hid (readOf s.data.toList = if L.length = n * n then (if allCells L = true then some (n, L) else none) else none) := Lib.hid (by rw [HRP.out, hsd]; rfl)
    have HSI : Hid (∀ w, Calls Tryd.prog 21 #[.int .i64 (n : Int)] w fun e w' => e = .returned (.bool true) ∧ w = w') := Lib.hid (fun w => by have h := isSide_any (n : Int) w; rw [hside] at h; exact h)
    clear HRP HVN HHS HS0 hsv hsd
    go_wp2_with fail
    refine (HSI.out _).mono ?_
    rintro e w' ⟨rfl, rfl⟩
    go_wp2_with fail
    refine (HSP.out _ (HWE.out.below B3.out)).mono ?_
    rintro e w4 ⟨rfl, rfl⟩
    have b4 := below_al w3 (.cells (ws.map Value.string).toArray 9)
    have G4 : Hid ((w3.alloc (.cells (ws.map Value.string).toArray 9)).heap[w.heap.size]? = some (.cells Z 25 (0, 0))) := Lib.hid (heap_below b4 G3.out)
    have B4 : Hid (Below w.heap.size w (w3.alloc (.cells (ws.map Value.string).toArray 9))) := Lib.hid (B3.out.trans (b4.mono B3.out.size))
    have HCW : Hid (∀ j u, ws[j]? = some u → (w3.alloc (.cells (ws.map Value.string).toArray 9)).cell? ⟨w3.heap.size, j, none⟩ = some (.string u)) := Lib.hid (fun j u hu => by rw [cell_of_row _ _ _ _ _ _ (h1_0 _ _)]; simp [hu])
    have HG2 : Hid (w3.heap.size < (w3.alloc (.cells (ws.map Value.string).toArray 9)).heap.size) := Lib.hid (by rw [size_al]; omega)
    generalize w3.alloc (.cells (ws.map Value.string).toArray 9) = w4 at *
    generalize w3.heap.size = g2 at *
    clear b4 G3 B3 HSP HSI
    have hs8 : n * n ≤ 64 := sq_le n hside
    have hnn : (n : Int) * (n : Int) = ((n * n : Nat) : Int) := by rw [Int.natCast_mul]
    have hw1 : IntKind.i64.wrap ((n : Int) * (n : Int)) = (n : Int) * (n : Int) := IntWalk.i64_in _ (by rw [hnn]; omega)
    by_cases hlen : ws.length = n * n
    · have hnq : (((ws.length : Nat) : Int) != (n : Int) * (n : Int)) = false := by rw [hnn, hlen]; simp
      have HR1 : Hid (readOf s.data.toList = if allCells L = true then some (n, L) else none) := Lib.hid (by rw [HR0.out, if_pos (by rw [← HL.out]; exact hlen)])
      have hlen64 : ws.length ≤ 64 := by omega
      have HLN := Lib.hid hlen
      have HB : Hid (Z.setIfInBounds 0 (Value.int .i64 (n : Int)) = pic (n : Int) zc) := Lib.hid (by rw [HZZ.out]; exact pic_set0 0 n zc)
      have HE2 : Hid ((Tryd.prog.info? 25).map (·.size) = some (Z.setIfInBounds 0 (Value.int .i64 (n : Int))).size) := Lib.hid (by rw [HB.out, pic_size _ _ zc_size]; exact HS37.out)
      have HZ2 : Hid (Z.size = (Z.setIfInBounds 0 (Value.int .i64 (n : Int))).size) := Lib.hid (by simp)
      have H2 : Hid ((Z.setIfInBounds 0 (Value.int .i64 (n : Int))).all (·.oneCell') = true) := Lib.hid (by rw [HB.out]; exact zc_one _)
      obtain ⟨E, HEE⟩ : ∃ E, Hid (E = pic (n : Int) zc) := ⟨_, Lib.hid rfl⟩
      rw [← HEE.out] at HB
      clear HR0 hlen hnn
      go_wp2_with (first | fail | (refine wpList_store_row rfl 25 (.tmp 10) (.tmp 48) rfl w4.heap.size (Z.setIfInBounds 0 (Value.int .i64 (n : Int))) rfl rfl 25 Z (h1_0 _ _) HE2.out HZ2.out H2.out ?_; rw [World.setRow_alloc_new, HB.out]))
      have GB : Hid ((w4.alloc (.cells E 25)).heap[w4.heap.size]? = some (.cells E 25 (0, 0))) := Lib.hid (h1_0 _ _)
      have b5 := below_al w4 (.cells E 25)
      have GR : Hid ((w4.alloc (.cells E 25)).heap[w.heap.size]? = some (.cells Z 25 (0, 0))) := Lib.hid (heap_below b5 G4.out)
      have HCX : Hid (∀ j u, ws[j]? = some u → (w4.alloc (.cells E 25)).cell? ⟨g2, j, none⟩ = some (.string u)) := Lib.hid (fun j u hu => cell_below b5 _ _ (HCW.out j u hu))
      have BB : Hid (Below w.heap.size w (w4.alloc (.cells E 25))) := Lib.hid (B4.out.trans (b5.mono B4.out.size))
      have hbz : w.heap.size < w4.heap.size := (Array.getElem?_eq_some_iff.1 G4.out).1
      have hgb2 : g2 ≠ w4.heap.size := by have := HG2.out; omega
      generalize w4.alloc (.cells E 25) = V at *
      generalize w4.heap.size = bz at *
      clear b5 G4 B4 HCW HG2 HB HE2 HZ2 H2
      go_loopw [51] (fun i wr => ∃ (k : Nat) (C : Array Value), k ≤ ws.length ∧ i = .int .i64 (k : Int) ∧ Hid (C = pic n (gf (cellF L) k)) ∧ Hid (wr.heap[bz]? = some (.cells C 25 (0, 0))) ∧ Hid (∀ j u, ws[j]? = some u → wr.cell? ⟨g2, j, none⟩ = some (.string u)) ∧ Hid (wr.heap[w.heap.size]? = some (.cells Z 25 (0, 0))) ∧ Hid (Below w.heap.size w wr) ∧ Hid (∀ j, j < k → (cellOf (L.getD j [])).isSome = true)) (fun i _ => ws.length - (intOf i).toNat)
      case atStart => exact ⟨0, E, by omega, rfl, Lib.hid (by rw [HEE.out, gf_zero]), GB, HCX, GR, BB, Lib.hid (fun j hj => absurd hj (by omega))⟩
      case round =>
        obtain ⟨k, C, hk, rfl, HCC, G, HCW, Z0, BR, HAL⟩ := hrel
        by_cases hlt : k < ws.length
        · have hdk : decide ((k : Int) < (ws.length : Int)) = true := decide_eq_true (by omega)
          have hku : ws[k]? = some ws[k] := List.getElem?_eq_getElem hlt
          obtain ⟨hu1, hu2⟩ := HU.out k ws[k] hku
          have ck := HCW.out k ws[k] hku
          have HPC : Hid (∀ w, Env w → Calls Tryd.prog 23 #[.string ws[k]] w fun e w' => (∃ x y, e = .returned (.tuple #[.complex .f32 x y, .bool (cellOf (L.getD k [])).isSome]) ∧ ∀ p, cellOf (L.getD k []) = some p → x = placeBits p.1 ∧ y = placeBits p.2) ∧ Below w.heap.size w w') := Lib.hid (by rw [hu2]; exact fun w hw => parseC_any ws[k] hu1 w hw)
          generalize ws[k] = u at *
          clear hku hu1 hu2
          go_wp2_with fail
          refine (HPC.out _ (HWE.out.below BR.out)).mono ?_
          rintro e w2 ⟨⟨x, y, rfl, hxy⟩, b2⟩
          have G2 : Hid (w2.heap[bz]? = some (.cells C 25 (0, 0))) := Lib.hid (heap_below b2 G.out)
          have G5 : Hid (w2.heap[w.heap.size]? = some (.cells Z 25 (0, 0))) := Lib.hid (heap_below b2 Z0.out)
          have H2 : Hid (∀ j u, ws[j]? = some u → w2.cell? ⟨g2, j, none⟩ = some (.string u)) := Lib.hid (fun j u hu => cell_below b2 _ _ (HCW.out j u hu))
          have B5 : Hid (Below w.heap.size w w2) := Lib.hid (BR.out.trans (b2.mono BR.out.size))
          have HXY := Lib.hid hxy
          clear G Z0 HCW BR b2 HPC ck hxy
          cases hcc : (cellOf (L.getD k [])).isSome with
          | false =>
            have HR : Hid (readOf s.data.toList = none) := Lib.hid (by
              rw [HR1.out, if_neg]
              intro h
              have hmem : L.getD k [] ∈ L := by
                have hl : k < L.length := by rw [← HL.out]; exact hlt
                rw [List.getD_eq_getElem?_getD, List.getElem?_eq_getElem hl]
                exact List.getElem_mem hl
              have := List.all_eq_true.1 h _ hmem
              rw [hcc] at this
              cases this)
            clear HXY hcc HR1
            go_wp2_with (refine wpList_store_row rfl 25 (.tmp 2) (.tmp 63) rfl w.heap.size Z rfl rfl 25 Z G5.out HZI.out rfl HZ1.out ?_)
            refine bodyPost_ret (v := .tuple #[.agg Z, .int .i64 6]) (results_row_tmp (fn := Tryd.f8) (p := 2) (u := 3) (ty := 25) rfl _ _ w.heap.size 25 Z (0, 0) _ rfl (setRow_heap _ _ _ _ _ _ G5.out) Tryd.underlying25 rfl HZI.out) rfl ⟨by rw [HR.out, HZZ.out]; rfl, ?_⟩
            exact below_setRow B5.out (Nat.le_refl _) _
          | true =>
            obtain ⟨p, hp⟩ := Option.isSome_iff_exists.1 hcc
            obtain ⟨hx, hy⟩ := HXY.out p hp
            have hFk : cellF L k = (x, y) := by unfold cellF; rw [hp, hx, hy]
            have hk64 : k < 64 := by omega
            have HSET : Hid (C.setIfInBounds (1 + k) (.complex .f32 x y) = pic n (gf (cellF L) (k + 1))) := Lib.hid (by
              have h := gf_set n (cellF L) k hk64
              rw [hFk] at h
              rw [HCC.out]
              exact h)
            have hold : w2.cell? ⟨bz, 1 + k, none⟩ = some (.complex .f32 0 0) := by rw [cell_of_row _ _ _ _ _ _ G2.out, HCC.out]; exact gf_old n (cellF L) k hk64
            have hfree : w2.frozen? ⟨bz, 1 + k, none⟩ = false := frozen_of_row _ _ _ _ _ G2.out
            have hq : ((k : Nat) : Int) < 64 := by omega
            have HAL2 : Hid (∀ j, j < k + 1 → (cellOf (L.getD j [])).isSome = true) := Lib.hid (fun j hj => by
              rcases Nat.lt_or_ge j k with h | h
              · exact HAL.out j h
              · obtain rfl : j = k := by omega
                exact hcc)
            clear hcc hp hx hy hFk HXY HAL
            go_wp2
            go_roundw
            case rel => exact ⟨k + 1, C.setIfInBounds (1 + k) (.complex .f32 x y), by omega, by go_num, HSET, Lib.hid (heap_setCell_same _ _ _ _ _ _ G2.out), Lib.hid (fun j u hu => by rw [World.cell?_of_block (w := w2) (heap_setCell_other _ _ _ _ hgb2)]; exact H2.out j u hu), Lib.hid (by rw [heap_setCell_other _ _ _ _ (by show w.heap.size ≠ bz; omega)]; exact G5.out), Lib.hid (B5.out.setCell (by show w.heap.size ≤ bz; omega) _), HAL2⟩
            case measure => simp [intOf]; omega
        · obtain rfl : k = ws.length := by omega
          have hdk : decide ((ws.length : Int) < (ws.length : Int)) = false := decide_eq_false (by omega)
          have HCI : Hid ((Tryd.prog.info? 25).map (·.size) = some C.size) := Lib.hid (by rw [HCC.out, pic_size _ _ (gf_size _ _)]; exact HS37.out)
          have HC1 : Hid (C.all (·.oneCell') = true) := Lib.hid (by rw [HCC.out]; exact gf_all_one _ _ _)
          have HZC : Hid (Z.size = C.size) := Lib.hid (by rw [HCC.out, pic_size _ _ (gf_size _ _)]; exact HZ37.out)
          have HR : Hid (readOf s.data.toList = some (n, L)) := Lib.hid (by
            rw [HR1.out, if_pos]
            refine List.all_eq_true.2 fun q hq => ?_
            obtain ⟨j, hj, rfl⟩ := List.mem_iff_getElem.1 hq
            have h := HAL.out j (by rw [HL.out]; exact hj)
            rwa [List.getD_eq_getElem?_getD, List.getElem?_eq_getElem hj] at h)
          have HCN : Hid (C = pic n (gf (cellF L) (n * n))) := Lib.hid (by rw [HCC.out, HLN.out])
          clear HCC HAL HR1 HU
          go_wp2_with (first | (refine wpList_load_row rfl 25 (.tmp 10) rfl bz rfl 25 C (0, 0) _ G.out Tryd.underlying25 rfl HCI.out ?_) | (refine wpList_store_row rfl 25 (.tmp 2) (.tmp 69) rfl w.heap.size C rfl rfl 25 Z Z0.out HCI.out HZC.out HC1.out ?_))
          refine bodyPost_ret (v := .tuple #[.agg C, .int .i64 0]) (results_row_tmp (fn := Tryd.f8) (p := 2) (u := 3) (ty := 25) rfl _ _ w.heap.size 25 C (0, 0) _ rfl (setRow_heap _ _ _ _ _ _ Z0.out) Tryd.underlying25 rfl HCI.out) rfl ⟨by rw [HR.out, HCN.out]; rfl, ?_⟩
          exact below_setRow BR.out (Nat.le_refl _) _
    · have hnq : (((ws.length : Nat) : Int) != (n : Int) * (n : Int)) = true := by rw [hnn]; simp only [bne_iff_ne, ne_eq]; omega
      have HR : Hid (readOf s.data.toList = none) := Lib.hid (by rw [HR0.out, if_neg (by rw [← HL.out]; exact hlen)])
      clear HR0 hnn
      go_wp2_with (refine wpList_store_row rfl 25 (.tmp 2) (.tmp 46) rfl w.heap.size Z rfl rfl 25 Z G4.out HZI.out rfl HZ1.out ?_)
      refine bodyPost_ret (v := .tuple #[.agg Z, .int .i64 6]) (results_row_tmp (fn := Tryd.f8) (p := 2) (u := 3) (ty := 25) rfl _ _ w.heap.size 25 Z (0, 0) _ rfl (setRow_heap _ _ _ _ _ _ G4.out) Tryd.underlying25 rfl HZI.out) rfl ⟨by rw [HR.out, HZZ.out]; rfl, ?_⟩
      exact below_setRow B4.out (Nat.le_refl _) _
end Go.Proofs.YtjmfffgddmnkmabDoor
