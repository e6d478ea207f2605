/- The model's reading of a text of a wave: the wave that the text tells, or none. Condition: texts up to 2^20 bytes. -/
import Derived.Test.YtjmfffgddmnkmabDoorCm
import Derived.Deep.QuietTactic
import Derived.OrdersHeld
import Derived.Deep.RegionHeld3
namespace Go.Proofs.YtjmfffgddmnkmabDoor
open Go Go.RowKit

theorem side_one_all : ∀ c : Fin 256, side (oneDigit c.val) = (sideOf [UInt8.ofNat c.val]).isSome ∧ ∀ n : Fin 9, sideOf [UInt8.ofNat c.val] = some n.val → oneDigit c.val = (n.val : Int) := by decide +kernel
theorem sideOf_small (l : List UInt8) (n : Nat) (h : sideOf l = some n) : 1 ≤ n ∧ n ≤ 8 ∧ side (n : Int) = true ∧ l.length = 1 := by
  unfold sideOf at h
  by_cases h1 : l = [49]
  · rw [if_pos h1] at h; injection h with h; subst h; rw [h1]; exact ⟨by omega, by omega, by decide, rfl⟩
  rw [if_neg h1] at h
  by_cases h2 : l = [50]
  · rw [if_pos h2] at h; injection h with h; subst h; rw [h2]; exact ⟨by omega, by omega, by decide, rfl⟩
  rw [if_neg h2] at h
  by_cases h4 : l = [52]
  · rw [if_pos h4] at h; injection h with h; subst h; rw [h4]; exact ⟨by omega, by omega, by decide, rfl⟩
  rw [if_neg h4] at h
  by_cases h8 : l = [56]
  · rw [if_pos h8] at h; injection h with h; subst h; rw [h8]; exact ⟨by omega, by omega, by decide, rfl⟩
  rw [if_neg h8] at h
  cases h
theorem side_one (c : UInt8) : side (oneDigit c.toNat) = (sideOf [c]).isSome ∧ ∀ n, sideOf [c] = some n → oneDigit c.toNat = (n : Int) := by
  obtain ⟨h1, h2⟩ := side_one_all ⟨c.toNat, c.toNat_lt⟩
  simp only [UInt8.ofNat_toNat] at h1 h2
  exact ⟨h1, fun n hn => h2 ⟨n, by have := sideOf_small _ _ hn; omega⟩ hn⟩
/-- what lies still while the second statement runs -/
structure KeptR (w : World) (Z : Array Value) (g : Nat) (a b : ByteArray) (x : World) : Prop where
  below : Below w.heap.size w x
  res : x.heap[w.heap.size]? = some (.cells Z 25 (0, 0))
  c0 : x.cell? ⟨g, 0, none⟩ = some (.string a)
  c1 : x.cell? ⟨g, 1, none⟩ = some (.string b)
theorem heap_below {x y : World} (hb : Below x.heap.size x y) {g : Nat} {o : Obj} (h : x.heap[g]? = some o) : y.heap[g]? = some o := by
  rw [hb.block _ (Array.getElem?_eq_some_iff.1 h).1]; exact h
theorem KeptR.next {w : World} {Z : Array Value} {g : Nat} {a b : ByteArray} {x y : World} (h : KeptR w Z g a b x) (hb : Below x.heap.size x y) : KeptR w Z g a b y :=
  ⟨h.below.trans (hb.mono h.below.size), heap_below hb h.res, cell_below hb _ _ h.c0, cell_below hb _ _ h.c1⟩
theorem below_al (x : World) (o : Obj) : Below x.heap.size x (x.alloc o) := (Below.refl _ _).alloc (Nat.le_refl _) _
theorem gf_all_one (s : Int) (F : Nat → Nat × Nat) (k : Nat) : (pic s (gf F k)).all (·.oneCell') = true := by
  rw [Array.all_eq_true_iff_forall_mem]
  intro v hv
  obtain ⟨i, hi, he⟩ := Array.mem_iff_getElem.1 hv
  have h := Array.getElem?_eq_getElem hi
  rw [he] at h
  cases i with
  | zero => rw [pic_zero] at h; cases h; rfl
  | succ i =>
    rw [pic_succ, gf_get] at h
    split at h
    · cases h
      split <;> rfl
    · cases h
theorem side_nat (s : Nat) (h : side s = true) : s = 1 ∨ s = 2 ∨ s = 4 ∨ s = 8 := by
  have := side_yes s h
  omega
theorem sq_le (s : Nat) (h : side s = true) : s * s ≤ 64 := by
  rcases side_nat s h with rfl | rfl | rfl | rfl <;> omega
theorem KeptR.row {w : World} {Z : Array Value} {g : Nat} {a b : ByteArray} {x : World} (h : KeptR w Z g a b x) {k : Nat} (hk : w.heap.size < k) (hg : g ≠ k) (cs : Array Value) : KeptR w Z g a b (x.setRow k cs) :=
  ⟨below_setRow h.below (by omega) _, by rw [heap_setRow_other _ _ _ _ (by omega)]; exact h.res, by rw [World.cell?_of_block (w := x) (heap_setRow_other _ _ _ _ hg)]; exact h.c0, by rw [World.cell?_of_block (w := x) (heap_setRow_other _ _ _ _ hg)]; exact h.c1⟩
theorem pos_sp {c : UInt8} {l : List UInt8} {done : List ByteArray} (hd : done.map (·.data.toList) = sp c l) : 0 < done.length := by
  have := congrArg List.length hd
  rw [List.length_map] at this
  have h2 := sp_ne c l
  rcases Nat.eq_zero_or_pos done.length with h | h
  · rw [h] at this
    exact absurd (List.eq_nil_of_length_eq_zero this.symm) h2
  · exact h

set_option maxRecDepth 100000 in
set_option maxHeartbeats 4000000 in
theorem read_any (s : ByteArray) (hs : s.size ≤ 1048576) (w : World) : Calls Tryd.prog 18 #[.string s] w fun e w' =>
    e = .returned (.tuple #[.agg (pic (sideR (readOf s.data.toList)) (cellsR (readOf s.data.toList))), .bool (readOf s.data.toList).isSome]) ∧ Below w.heap.size w w' := by
  have hz37 := (zero_of_info info37').1
  have HS37 := Lib.hid (zero_of_info info37').2
  have HZ37 : Hid ((pic 0 zc).size = 65) := Lib.hid (pic_size 0 zc zc_size)
  have HZ1 := Lib.hid (zc_one 0)
  have hne := pic_ne
  obtain ⟨Z, HZZ⟩ : ∃ Z, Hid (Z = pic 0 zc) := ⟨_, Lib.hid rfl⟩
  rw [← HZZ.out] at hz37 HZ37 HZ1 hne
  have HZI : Hid ((Tryd.prog.info? 25).map (·.size) = some Z.size) := Lib.hid (by rw [HZ37.out]; exact HS37.out)
  have HS : Hid (∀ w, Calls Tryd.prog 48 #[.string s, .int .u8 58] w fun e w' => ∃ (v : Value) (done : List ByteArray), e = .returned v ∧ w'.ownsRow w.heap.size 9 1 v done.length (done.map Value.string) ∧ done.map (·.data.toList) = sp 58 s.data.toList ∧ Below w.heap.size w w') := Lib.hid fun w => split_any s hs 58 w
  go_enter Tryd.func18, Tryd.ntmps18
  go_wp2_with fail
  refine (HS.out _).mono ?_
  rintro e w1 ⟨v, done, rfl, ho, hd, hb⟩
  have hpos : 0 < done.length := by
    have := congrArg List.length hd
    rw [List.length_map] at this
    have h2 := sp_ne 58 s.data.toList
    rcases Nat.eq_zero_or_pos done.length with h | h
    · rw [h] at this
      exact absurd (List.eq_nil_of_length_eq_zero this.symm) h2
    · exact h
  obtain ⟨g, cap, rfl, hgb, hcell⟩ := own_form ho hpos
  have G1 : Hid (w1.heap[w.heap.size]? = some (.cells Z 25 (0, 0))) := Lib.hid (heap_below hb (h1_0 _ _))
  have B1 : Hid (Below w.heap.size w w1) := Lib.hid ((below_al w _).trans (hb.mono (by rw [size_al]; omega)))
  clear ho hb HS
  by_cases h2 : done.length = 2
  · obtain ⟨a, b, rfl⟩ : ∃ a b, done = [a, b] := by
      match done, h2 with
      | [a, b], _ => exact ⟨a, b, rfl⟩
    have hsp : sp 58 s.data.toList = [a.data.toList, b.data.toList] := hd.symm
    have hlb : b.size ≤ 1048576 := by
      have := sp_len 58 s.data.toList b.data.toList (by rw [hsp]; simp)
      rw [← Lib.size_eq, ← Lib.size_eq] at this
      omega
    have c0 := hcell 0 a rfl
    have c1 := hcell 1 b rfl
    have HRD : Hid (readOf s.data.toList = match sideOf a.data.toList with
      | some n => if (sp 32 b.data.toList).length = n * n then (if allCells (sp 32 b.data.toList) = true then some (n, sp 32 b.data.toList) else none) else none
      | none => none) := Lib.hid (by unfold readOf; rw [hsp]; rfl)
    clear hcell hsp hd h2 hpos
    by_cases ha1 : a.size = 1
    · have haz : ((a.size : Int) != 1) = false := by rw [ha1]; rfl
      obtain ⟨c, hc⟩ : ∃ c, a.data.toList = [c] := by
        have h : a.data.toList.length = 1 := by rw [← Lib.size_eq]; exact ha1
        match hq : a.data.toList, h with
        | [c], _ => exact ⟨c, rfl⟩
      have HN := Lib.hid (number_one a c hc)
      obtain ⟨hso, hsn⟩ := side_one c
      rw [hc] at HRD
      have HSI := Lib.hid (l01Side_any (oneDigit c.toNat))
      rw [hso] at HSI
      cases hsd : sideOf [c] with
      | none =>
        rw [hsd] at HSI HRD
        have HR : Hid (readOf s.data.toList = none) := Lib.hid HRD.out
        have HSI2 : Hid (∀ w, Calls Tryd.prog 49 #[.int .i64 (oneDigit c.toNat)] w fun e w' => e = .returned (.bool false) ∧ w = w') := HSI
        clear HRD hso hsn hsd HSI hc ha1
        generalize oneDigit c.toNat = d at *
        go_wp2_with fail
        refine (HN.out _).mono ?_
        rintro e w' ⟨rfl, hw'⟩
        obtain rfl := hw'.symm
        go_wp2_with fail
        refine (HSI2.out _).mono ?_
        rintro e w' ⟨rfl, rfl⟩
        go_wp2_with (refine wpList_store_row rfl 25 (.tmp 2) (.tmp 30) rfl w.heap.size Z rfl rfl 25 Z G1.out HZI.out rfl HZ1.out ?_)
        refine bodyPost_ret (v := .tuple #[.agg Z, .bool false]) (results_row_tmp (fn := Tryd.f18) (p := 2) (u := 3) (ty := 25) rfl _ _ w.heap.size 25 Z (0, 0) _ rfl (setRow_heap _ _ _ _ _ _ G1.out) Tryd.underlying25 rfl HZI.out) rfl ⟨by rw [HR.out, HZZ.out]; rfl, ?_⟩
        exact below_setRow B1.out (Nat.le_refl _) _
      | some n =>
        obtain ⟨n1, n8, hside, _⟩ := sideOf_small _ _ hsd
        have hdn := hsn n hsd
        rw [hsd] at HSI HRD
        rw [hdn] at HSI HN
        have HSI2 : Hid (∀ w, Calls Tryd.prog 49 #[.int .i64 (n : Int)] w fun e w' => e = .returned (.bool true) ∧ w = w') := HSI
        have HR0 : Hid (readOf s.data.toList = if (sp 32 b.data.toList).length = n * n then (if allCells (sp 32 b.data.toList) = true then some (n, sp 32 b.data.toList) else none) else none) := Lib.hid HRD.out
        clear HRD hso hsn hsd HSI hc ha1 hdn
        have HNS : Hid (∀ w, Calls Tryd.prog 50 #[.string a] w fun e w' => e = .returned (.int .i64 (n : Int)) ∧ w' = w) := HN
        clear HN
        go_wp2_with fail
        refine (HNS.out _).mono ?_
        rintro e w' ⟨rfl, hw'⟩
        obtain rfl := hw'.symm
        go_wp2_with fail
        refine (HSI2.out _).mono ?_
        rintro e w' ⟨rfl, rfl⟩
        go_upto_region 4 with fail
        obtain ⟨E, HEE⟩ : ∃ E, Hid (E = pic (n : Int) zc) := ⟨_, Lib.hid rfl⟩
        have HE0 := empty_any (n : Int)
        rw [← HEE.out] at HE0
        have HE := Lib.hid HE0
        clear HE0
        have HEI : Hid ((Tryd.prog.info? 25).map (·.size) = some E.size) := Lib.hid (by rw [HEE.out, pic_size _ _ zc_size]; exact HS37.out)
        have HZE : Hid (Z.size = E.size) := Lib.hid (by rw [HEE.out, pic_size _ _ zc_size]; exact HZ37.out)
        have HE1 : Hid (E.all (·.oneCell') = true) := Lib.hid (by rw [HEE.out]; exact zc_one _)
        have HSP : Hid (∀ w, Calls Tryd.prog 48 #[.string b, .int .u8 32] w fun e w' => ∃ (v : Value) (done : List ByteArray), e = .returned v ∧ w'.ownsRow w.heap.size 9 1 v done.length (done.map Value.string) ∧ done.map (·.data.toList) = sp 32 b.data.toList ∧ Below w.heap.size w w') := Lib.hid fun w => split_any b hlb 32 w
        go_cut [5, 6] (fun t5 t6 wx => ∃ (bz g2 cap2 : Nat) (ws : List ByteArray), t5 = .pointer (some ⟨bz, 0, none⟩) ∧ t6 = .slice (some ⟨g2, 0, none⟩) ws.length cap2 ∧ w.heap.size < bz ∧ g2 ≠ bz ∧ w.heap.size < g2 ∧ Hid (wx.heap[bz]? = some (.cells E 25 (0, 0))) ∧ Hid (∀ j u, ws[j]? = some u → wx.cell? ⟨g2, j, none⟩ = some (.string u)) ∧ Hid (ws.map (·.data.toList) = sp 32 b.data.toList) ∧ Hid (wx.heap[w.heap.size]? = some (.cells Z 25 (0, 0))) ∧ Hid (Below w.heap.size w wx))
        case first =>
          have KD : KeptR w Z g a b w1.drew := ⟨below_drewN B1.out 1, G1.out, c0, c1⟩
          refine wp_region_noPanic ?_
          refine wp_region_held_drew (S := KeptR w Z g a b) (by kernel_rfl) KD (fun hHeld => ?_)
          have HGV : Hid (g < w1.drew.heap.size) := Lib.hid (World.block_lt_of_cell? _ _ hHeld.c0)
          have HLT : Hid (w.heap.size < w1.drew.heap.size) := Lib.hid (Array.getElem?_eq_some_iff.1 hHeld.res).1
          clear KD c0 c1 G1 B1
          generalize w1.drew = v at *
          obtain ⟨V, HV⟩ : ∃ V, V = v.heap.size := ⟨_, rfl⟩
          rw [← HV] at HGV HLT
          have le0 : V ≤ v.heap.size := Nat.le_of_eq HV
          clear HV
          refine wpAnyH_take (i := 0) (v := .slice (some ⟨g, 0, none⟩) 2 cap) rfl (by kernel_rfl) (by kernel_rfl) (by kernel_rfl) (fun _ _ _ h => h) (Or.inl ⟨by rfl, fun w' hSw => by go_simp⟩) hHeld ?_
          simp only [Act.put]
          refine wpAnyH_take (i := 1) (v := .pointer (some ⟨g, 0, none⟩)) rfl (by kernel_rfl) (by kernel_rfl) (by kernel_rfl) (fun _ _ _ h => h) (Or.inl ⟨by rfl, fun w' hSw => by go_simp⟩) hHeld ?_
          simp only [Act.put]
          refine wpAnyH_take (i := 2) (v := .string a) rfl (by kernel_rfl) (by kernel_rfl) (by kernel_rfl) (fun _ _ _ h => h) (Or.inl ⟨by rfl, fun w' hSw => by have c0 := hSw.c0; go_simp⟩) hHeld ?_
          simp only [Act.put]
          refine wpAnyH_take (i := 5) (v := .slice (some ⟨g, 0, none⟩) 2 cap) rfl (by kernel_rfl) (by kernel_rfl) (by kernel_rfl) (fun _ _ _ h => h) (Or.inl ⟨by rfl, fun w' hSw => by go_simp⟩) hHeld ?_
          simp only [Act.put]
          refine wpAnyH_take (i := 6) (v := .pointer (some ⟨g, 1, none⟩)) rfl (by kernel_rfl) (by kernel_rfl) (by kernel_rfl) (fun _ _ _ h => h) (Or.inl ⟨by rfl, fun w' hSw => by go_simp⟩) hHeld ?_
          simp only [Act.put]
          refine wpAnyH_take (i := 7) (v := .string b) rfl (by kernel_rfl) (by kernel_rfl) (by kernel_rfl) (fun _ _ _ h => h) (Or.inl ⟨by rfl, fun w' hSw => by have c1 := hSw.c1; go_simp⟩) hHeld ?_
          simp only [Act.put]
          refine wpAnyH_ready (rs := [3, 9]) (by kernel_rfl) (by simp) ?_
          refine AllReadyH.cons (o := _) rfl (fun K hK => ?_) (AllReadyH.cons (o := _) rfl (fun K hK => ?_) AllReadyH.nil)
          · rw [if_pos (by rfl)]
            go_simp
            refine (HNS.out _).mono ?_
            rintro e w' ⟨rfl, hw'⟩
            obtain rfl := hw'.symm
            refine hK.out _ _ hHeld (fun hH1 => ?_)
            clear hK K hw'
            try simp only [Act.put]
            refine wpAnyH_ready (rs := [4, 9]) (by kernel_rfl) (by simp) ?_
            refine AllReadyH.cons (o := _) rfl (fun K hK => ?_) (AllReadyH.cons (o := _) rfl (fun K hK => ?_) AllReadyH.nil)
            · rw [if_pos (by rfl)]
              go_simp
              refine (HE.out _).mono ?_
              rintro e w' ⟨rfl, rfl⟩
              have hb2 := below_al v (.cells E 25)
              have le2 : V ≤ (v.alloc (.cells E 25)).heap.size := Nat.le_trans le0 hb2.size
              refine hK.out _ _ (hH1.next hb2) (fun hH2 => ?_)
              clear hK K hb2
              generalize v.alloc (.cells E 25) = y2 at *
              try simp only [Act.put]
              refine wpAnyH_ready (rs := [8, 9]) (by kernel_rfl) (by simp) ?_
              refine AllReadyH.cons (o := _) rfl (fun K hK => ?_) (AllReadyH.cons (o := _) rfl (fun K hK => ?_) AllReadyH.nil)
              · rw [if_pos (by rfl)]
                go_simp
                refine (HSP.out _).mono ?_
                rintro e y3 ⟨vv, ws, rfl, ho, hd, hb3⟩
                obtain ⟨g2, cap2, rfl, gg3, hc3⟩ := own_form ho (pos_sp hd)
                have gl3 : g2 < y3.heap.size := World.block_lt_of_cell? _ _ (hc3 0 _ (List.getElem?_eq_getElem (pos_sp hd)))
                have le3 : V ≤ y3.heap.size := Nat.le_trans le2 hb3.size
                have gv3 : V ≤ g2 := Nat.le_trans le2 gg3
                refine hK.out _ _ (hH2.next hb3) (fun hH3 => ?_)
                clear hK K hb3 ho gg3
                try simp only [Act.put]
                refine wpAnyH_ready (rs := [9]) (by kernel_rfl) (by simp) ?_
                refine AllReadyH.cons (o := _) rfl (fun K hK => ?_) AllReadyH.nil
                rw [if_pos (by rfl)]
                go_simp
                have hb4 := below_al y3 (.cells Z 25)
                have le4 : V ≤ (y3.alloc (.cells Z 25)).heap.size := Nat.le_trans le3 hb4.size
                have gz4 : (y3.alloc (.cells Z 25)).heap[y3.heap.size]? = some (.cells Z 25 (0, 0)) := h1_0 _ _
                have bl4 : V ≤ y3.heap.size := le3
                have dz4 : g2 ≠ y3.heap.size := by have := gl3; omega
                have hc4 : ∀ j u, ws[j]? = some u → (y3.alloc (.cells Z 25)).cell? ⟨g2, j, none⟩ = some (.string u) := fun j u hu => cell_below hb4 _ _ (hc3 j u hu)
                clear hc3
                refine hK.out _ _ (hH3.next hb4) (fun hH4 => ?_)
                clear hK K hb4
                generalize y3.alloc (.cells Z 25) = y4 at *
                generalize y3.heap.size = bz at *
                try simp only [Act.put]
                refine wpAnyH_ready (rs := [10]) (by kernel_rfl) (by simp) ?_
                refine AllReadyH.cons (o := _) rfl (fun K hK => ?_) AllReadyH.nil
                rw [if_pos (by rfl)]
                refine wp_store_row 25 (.tmp 5) (.tmp 35) rfl bz E rfl rfl 25 Z gz4 HEI.out HZE.out HE1.out ?_
                have hwb : w.heap.size < bz := by have := HLT.out; have := bl4; omega
                have hgz : g ≠ bz := by have := HGV.out; have := bl4; omega
                refine hK.out _ _ (hH4.row hwb hgz E) (fun hHf => ?_)
                clear hK K
                refine (show wpAnyH _ _ _ _ _ _ _ (Act.put _ none _) _ from ?_)
                simp only [Act.put]
                refine wpAnyH_take (i := 11) (v := .slice (some ⟨g2, 0, none⟩) ws.length cap2) rfl (by kernel_rfl) (by kernel_rfl) (by kernel_rfl) (fun _ _ _ h => h) (Or.inl ⟨by rfl, fun w' hSw => by go_simp⟩) hHf ?_
                refine (show wpAnyH _ _ _ _ _ _ _ (Act.put _ (some 6) _) _ from ?_)
                simp only [Act.put]
                refine wpAnyH_done (by kernel_rfl) ?_ _
                refine NoPanic.normal ?_
                go_wp2
                go_meet
                case rel => exact ⟨bz, g2, cap2, ws, rfl, rfl, hwb, dz4, by have := HLT.out; have := gv3; omega, Lib.hid (setRow_heap _ _ _ _ _ _ gz4), Lib.hid (fun j u hu => by rw [World.cell?_of_block (w := y4) (heap_setRow_other _ _ _ _ dz4)]; exact hc4 j u hu), Lib.hid hd, Lib.hid hHf.res, Lib.hid hHf.below⟩
              · rw [if_pos (by rfl)]
                go_simp
                have hb6 := below_al y2 (.cells Z 25)
                have le6 : V ≤ (y2.alloc (.cells Z 25)).heap.size := Nat.le_trans le2 hb6.size
                have gz6 : (y2.alloc (.cells Z 25)).heap[y2.heap.size]? = some (.cells Z 25 (0, 0)) := h1_0 _ _
                have bl6 : V ≤ y2.heap.size := le2
                have bu6 : y2.heap.size < (y2.alloc (.cells Z 25)).heap.size := by rw [size_al]; omega
                refine hK.out _ _ (hH2.next hb6) (fun hH6 => ?_)
                clear hK K hb6
                generalize y2.alloc (.cells Z 25) = y6 at *
                generalize y2.heap.size = bz at *
                try simp only [Act.put]
                refine wpAnyH_ready (rs := [8]) (by kernel_rfl) (by simp) ?_
                refine AllReadyH.cons (o := _) rfl (fun K hK => ?_) AllReadyH.nil
                rw [if_pos (by rfl)]
                go_simp
                refine (HSP.out _).mono ?_
                rintro e y7 ⟨vv, ws, rfl, ho, hd, hb7⟩
                obtain ⟨g2, cap2, rfl, gg7, hc7⟩ := own_form ho (pos_sp hd)
                have gl7 : g2 < y7.heap.size := World.block_lt_of_cell? _ _ (hc7 0 _ (List.getElem?_eq_getElem (pos_sp hd)))
                have le7 : V ≤ y7.heap.size := Nat.le_trans le6 hb7.size
                have gv7 : V ≤ g2 := Nat.le_trans le6 gg7
                have dz7 : g2 ≠ bz := by have := bu6; omega
                have gz7 : y7.heap[bz]? = some (.cells Z 25 (0, 0)) := heap_below hb7 gz6
                refine hK.out _ _ (hH6.next hb7) (fun hH7 => ?_)
                clear hK K hb7 ho gg7
                try simp only [Act.put]
                refine wpAnyH_ready (rs := [10]) (by kernel_rfl) (by simp) ?_
                refine AllReadyH.cons (o := _) rfl (fun K hK => ?_) AllReadyH.nil
                rw [if_pos (by rfl)]
                refine wp_store_row 25 (.tmp 5) (.tmp 35) rfl bz E rfl rfl 25 Z gz7 HEI.out HZE.out HE1.out ?_
                have hwb : w.heap.size < bz := by have := HLT.out; have := bl6; omega
                have hgz : g ≠ bz := by have := HGV.out; have := bl6; omega
                refine hK.out _ _ (hH7.row hwb hgz E) (fun hHf => ?_)
                clear hK K
                refine (show wpAnyH _ _ _ _ _ _ _ (Act.put _ none _) _ from ?_)
                simp only [Act.put]
                refine wpAnyH_take (i := 11) (v := .slice (some ⟨g2, 0, none⟩) ws.length cap2) rfl (by kernel_rfl) (by kernel_rfl) (by kernel_rfl) (fun _ _ _ h => h) (Or.inl ⟨by rfl, fun w' hSw => by go_simp⟩) hHf ?_
                refine (show wpAnyH _ _ _ _ _ _ _ (Act.put _ (some 6) _) _ from ?_)
                simp only [Act.put]
                refine wpAnyH_done (by kernel_rfl) ?_ _
                refine NoPanic.normal ?_
                go_wp2
                go_meet
                case rel => exact ⟨bz, g2, cap2, ws, rfl, rfl, hwb, dz7, by have := HLT.out; have := gv7; omega, Lib.hid (setRow_heap _ _ _ _ _ _ gz7), Lib.hid (fun j u hu => by rw [World.cell?_of_block (w := y7) (heap_setRow_other _ _ _ _ dz7)]; exact hc7 j u hu), Lib.hid hd, Lib.hid hHf.res, Lib.hid hHf.below⟩
            · rw [if_pos (by rfl)]
              go_simp
              have hb9 := below_al v (.cells Z 25)
              have le9 : V ≤ (v.alloc (.cells Z 25)).heap.size := Nat.le_trans le0 hb9.size
              have gz9 : (v.alloc (.cells Z 25)).heap[v.heap.size]? = some (.cells Z 25 (0, 0)) := h1_0 _ _
              have bl9 : V ≤ v.heap.size := le0
              have bu9 : v.heap.size < (v.alloc (.cells Z 25)).heap.size := by rw [size_al]; omega
              refine hK.out _ _ (hH1.next hb9) (fun hH9 => ?_)
              clear hK K hb9
              generalize v.alloc (.cells Z 25) = y9 at *
              generalize v.heap.size = bz at *
              try simp only [Act.put]
              refine wpAnyH_ready (rs := [4]) (by kernel_rfl) (by simp) ?_
              refine AllReadyH.cons (o := _) rfl (fun K hK => ?_) AllReadyH.nil
              rw [if_pos (by rfl)]
              go_simp
              refine (HE.out _).mono ?_
              rintro e w' ⟨rfl, rfl⟩
              have hb10 := below_al y9 (.cells E 25)
              have le10 : V ≤ (y9.alloc (.cells E 25)).heap.size := Nat.le_trans le9 hb10.size
              have gz10 : (y9.alloc (.cells E 25)).heap[bz]? = some (.cells Z 25 (0, 0)) := heap_below hb10 gz9
              clear gz9
              have bu10 : bz < (y9.alloc (.cells E 25)).heap.size := Nat.lt_of_lt_of_le bu9 hb10.size
              refine hK.out _ _ (hH9.next hb10) (fun hH10 => ?_)
              clear hK K hb10
              generalize y9.alloc (.cells E 25) = y10 at *
              try simp only [Act.put]
              refine wpAnyH_ready (rs := [8]) (by kernel_rfl) (by simp) ?_
              refine AllReadyH.cons (o := _) rfl (fun K hK => ?_) AllReadyH.nil
              rw [if_pos (by rfl)]
              go_simp
              refine (HSP.out _).mono ?_
              rintro e y11 ⟨vv, ws, rfl, ho, hd, hb11⟩
              obtain ⟨g2, cap2, rfl, gg11, hc11⟩ := own_form ho (pos_sp hd)
              have gl11 : g2 < y11.heap.size := World.block_lt_of_cell? _ _ (hc11 0 _ (List.getElem?_eq_getElem (pos_sp hd)))
              have le11 : V ≤ y11.heap.size := Nat.le_trans le10 hb11.size
              have gv11 : V ≤ g2 := Nat.le_trans le10 gg11
              have dz11 : g2 ≠ bz := by have := bu10; omega
              have gz11 : y11.heap[bz]? = some (.cells Z 25 (0, 0)) := heap_below hb11 gz10
              refine hK.out _ _ (hH10.next hb11) (fun hH11 => ?_)
              clear hK K hb11 ho gg11
              try simp only [Act.put]
              refine wpAnyH_ready (rs := [10]) (by kernel_rfl) (by simp) ?_
              refine AllReadyH.cons (o := _) rfl (fun K hK => ?_) AllReadyH.nil
              rw [if_pos (by rfl)]
              refine wp_store_row 25 (.tmp 5) (.tmp 35) rfl bz E rfl rfl 25 Z gz11 HEI.out HZE.out HE1.out ?_
              have hwb : w.heap.size < bz := by have := HLT.out; have := bl9; omega
              have hgz : g ≠ bz := by have := HGV.out; have := bl9; omega
              refine hK.out _ _ (hH11.row hwb hgz E) (fun hHf => ?_)
              clear hK K
              refine (show wpAnyH _ _ _ _ _ _ _ (Act.put _ none _) _ from ?_)
              simp only [Act.put]
              refine wpAnyH_take (i := 11) (v := .slice (some ⟨g2, 0, none⟩) ws.length cap2) rfl (by kernel_rfl) (by kernel_rfl) (by kernel_rfl) (fun _ _ _ h => h) (Or.inl ⟨by rfl, fun w' hSw => by go_simp⟩) hHf ?_
              refine (show wpAnyH _ _ _ _ _ _ _ (Act.put _ (some 6) _) _ from ?_)
              simp only [Act.put]
              refine wpAnyH_done (by kernel_rfl) ?_ _
              refine NoPanic.normal ?_
              go_wp2
              go_meet
              case rel => exact ⟨bz, g2, cap2, ws, rfl, rfl, hwb, dz11, by have := HLT.out; have := gv11; omega, Lib.hid (setRow_heap _ _ _ _ _ _ gz11), Lib.hid (fun j u hu => by rw [World.cell?_of_block (w := y11) (heap_setRow_other _ _ _ _ dz11)]; exact hc11 j u hu), Lib.hid hd, Lib.hid hHf.res, Lib.hid hHf.below⟩
          · rw [if_pos (by rfl)]
            go_simp
            have hb13 := below_al v (.cells Z 25)
            have le13 : V ≤ (v.alloc (.cells Z 25)).heap.size := Nat.le_trans le0 hb13.size
            have gz13 : (v.alloc (.cells Z 25)).heap[v.heap.size]? = some (.cells Z 25 (0, 0)) := h1_0 _ _
            have bl13 : V ≤ v.heap.size := le0
            have bu13 : v.heap.size < (v.alloc (.cells Z 25)).heap.size := by rw [size_al]; omega
            refine hK.out _ _ (hHeld.next hb13) (fun hH13 => ?_)
            clear hK K hb13
            generalize v.alloc (.cells Z 25) = y13 at *
            generalize v.heap.size = bz at *
            try simp only [Act.put]
            refine wpAnyH_ready (rs := [3]) (by kernel_rfl) (by simp) ?_
            refine AllReadyH.cons (o := _) rfl (fun K hK => ?_) AllReadyH.nil
            rw [if_pos (by rfl)]
            go_simp
            refine (HNS.out _).mono ?_
            rintro e w' ⟨rfl, hw'⟩
            obtain rfl := hw'.symm
            refine hK.out _ _ hH13 (fun hH14 => ?_)
            clear hK K hw'
            try simp only [Act.put]
            refine wpAnyH_ready (rs := [4]) (by kernel_rfl) (by simp) ?_
            refine AllReadyH.cons (o := _) rfl (fun K hK => ?_) AllReadyH.nil
            rw [if_pos (by rfl)]
            go_simp
            refine (HE.out _).mono ?_
            rintro e w' ⟨rfl, rfl⟩
            have hb15 := below_al y13 (.cells E 25)
            have le15 : V ≤ (y13.alloc (.cells E 25)).heap.size := Nat.le_trans le13 hb15.size
            have gz15 : (y13.alloc (.cells E 25)).heap[bz]? = some (.cells Z 25 (0, 0)) := heap_below hb15 gz13
            clear gz13
            have bu15 : bz < (y13.alloc (.cells E 25)).heap.size := Nat.lt_of_lt_of_le bu13 hb15.size
            refine hK.out _ _ (hH14.next hb15) (fun hH15 => ?_)
            clear hK K hb15
            generalize y13.alloc (.cells E 25) = y15 at *
            try simp only [Act.put]
            refine wpAnyH_ready (rs := [8]) (by kernel_rfl) (by simp) ?_
            refine AllReadyH.cons (o := _) rfl (fun K hK => ?_) AllReadyH.nil
            rw [if_pos (by rfl)]
            go_simp
            refine (HSP.out _).mono ?_
            rintro e y16 ⟨vv, ws, rfl, ho, hd, hb16⟩
            obtain ⟨g2, cap2, rfl, gg16, hc16⟩ := own_form ho (pos_sp hd)
            have gl16 : g2 < y16.heap.size := World.block_lt_of_cell? _ _ (hc16 0 _ (List.getElem?_eq_getElem (pos_sp hd)))
            have le16 : V ≤ y16.heap.size := Nat.le_trans le15 hb16.size
            have gv16 : V ≤ g2 := Nat.le_trans le15 gg16
            have dz16 : g2 ≠ bz := by have := bu15; omega
            have gz16 : y16.heap[bz]? = some (.cells Z 25 (0, 0)) := heap_below hb16 gz15
            refine hK.out _ _ (hH15.next hb16) (fun hH16 => ?_)
            clear hK K hb16 ho gg16
            try simp only [Act.put]
            refine wpAnyH_ready (rs := [10]) (by kernel_rfl) (by simp) ?_
            refine AllReadyH.cons (o := _) rfl (fun K hK => ?_) AllReadyH.nil
            rw [if_pos (by rfl)]
            refine wp_store_row 25 (.tmp 5) (.tmp 35) rfl bz E rfl rfl 25 Z gz16 HEI.out HZE.out HE1.out ?_
            have hwb : w.heap.size < bz := by have := HLT.out; have := bl13; omega
            have hgz : g ≠ bz := by have := HGV.out; have := bl13; omega
            refine hK.out _ _ (hH16.row hwb hgz E) (fun hHf => ?_)
            clear hK K
            refine (show wpAnyH _ _ _ _ _ _ _ (Act.put _ none _) _ from ?_)
            simp only [Act.put]
            refine wpAnyH_take (i := 11) (v := .slice (some ⟨g2, 0, none⟩) ws.length cap2) rfl (by kernel_rfl) (by kernel_rfl) (by kernel_rfl) (fun _ _ _ h => h) (Or.inl ⟨by rfl, fun w' hSw => by go_simp⟩) hHf ?_
            refine (show wpAnyH _ _ _ _ _ _ _ (Act.put _ (some 6) _) _ from ?_)
            simp only [Act.put]
            refine wpAnyH_done (by kernel_rfl) ?_ _
            refine NoPanic.normal ?_
            go_wp2
            go_meet
            case rel => exact ⟨bz, g2, cap2, ws, rfl, rfl, hwb, dz16, by have := HLT.out; have := gv16; omega, Lib.hid (setRow_heap _ _ _ _ _ _ gz16), Lib.hid (fun j u hu => by rw [World.cell?_of_block (w := y16) (heap_setRow_other _ _ _ _ dz16)]; exact hc16 j u hu), Lib.hid hd, Lib.hid hHf.res, Lib.hid hHf.below⟩
        case rest =>
        obtain ⟨bz, g2, cap2, ws, rfl, rfl, hbz, hgb2, hwg, GB, HC, HW, GR, BB⟩ := hcut
        have hs8 : n * n ≤ 64 := sq_le n hside
        have hnn : (n : Int) * (n : Int) = ((n * n : Nat) : Int) := by rw [Int.natCast_mul]
        have hw1 : IntKind.i64.wrap ((n : Int) * (n : Int)) = (n : Int) * (n : Int) := IntWalk.i64_in _ (by rw [hnn]; omega)
        have cs : wc.cell? ⟨bz, 0, none⟩ = some (.int .i64 (n : Int)) := by rw [cell_of_row _ _ _ _ _ _ GB.out, HEE.out]; exact pic_zero _ _
        have HU : Hid (∀ k u, ws[k]? = some u → u.size ≤ 1048576 ∧ (sp 32 b.data.toList).getD k [] = u.data.toList) := Lib.hid (by
          intro k u hk
          have hm : (sp 32 b.data.toList)[k]? = some u.data.toList := by rw [← HW.out, List.getElem?_map, hk]; rfl
          refine ⟨?_, by rw [List.getD_eq_getElem?_getD, hm]; rfl⟩
          have := sp_len 32 b.data.toList u.data.toList (List.mem_of_getElem? hm)
          rw [← Lib.size_eq, ← Lib.size_eq] at this
          omega)
        have HL : Hid (ws.length = (sp 32 b.data.toList).length) := Lib.hid (by rw [← HW.out, List.length_map])
        obtain ⟨L, hLL⟩ : ∃ L, L = sp 32 b.data.toList := ⟨_, rfl⟩
        rw [← hLL] at HR0 HU HL
        clear HW hLL HSP HNS HSI2 HE c0 c1 G1 B1 hlb
        by_cases hlen : ws.length = n * n
        · have hnq : (((ws.length : Nat) : Int) != (n : Int) * (n : Int)) = false := by rw [hnn, hlen]; simp
          have HR1 : Hid (readOf s.data.toList = if allCells L = true then some (n, L) else none) := Lib.hid (by rw [HR0.out, if_pos (by rw [← HL.out]; exact hlen)])
          have hlen64 : ws.length ≤ 64 := by omega
          have HLN := Lib.hid hlen
          clear HR0 hlen hnn
          go_wp2
          clear cs
          go_loopw [7] (fun i wr => ∃ (k : Nat) (C : Array Value), k ≤ ws.length ∧ i = .int .i64 (k : Int) ∧ Hid (C = pic n (gf (cellF L) k)) ∧ Hid (wr.heap[bz]? = some (.cells C 25 (0, 0))) ∧ Hid (∀ j u, ws[j]? = some u → wr.cell? ⟨g2, j, none⟩ = some (.string u)) ∧ Hid (wr.heap[w.heap.size]? = some (.cells Z 25 (0, 0))) ∧ Hid (Below w.heap.size w wr) ∧ Hid (∀ j, j < k → (cellOf (L.getD j [])).isSome = true)) (fun i _ => ws.length - (intOf i).toNat)
          case atStart => exact ⟨0, E, by omega, rfl, Lib.hid (by rw [HEE.out, gf_zero]), GB, HC, GR, BB, Lib.hid (fun j hj => absurd hj (by omega))⟩
          case round =>
            obtain ⟨k, C, hk, rfl, HCC, G, HCW, Z0, B, HAL⟩ := hrel
            by_cases hlt : k < ws.length
            · have hdk : decide ((k : Int) < (ws.length : Int)) = true := decide_eq_true (by omega)
              have hku : ws[k]? = some ws[k] := List.getElem?_eq_getElem hlt
              obtain ⟨hu1, hu2⟩ := HU.out k ws[k] hku
              have ck := HCW.out k ws[k] hku
              have HCX := Lib.hid (complex_any ws[k] hu1)
              rw [← hu2] at HCX
              generalize ws[k] = u at *
              clear hku hu1 hu2
              go_wp2_with fail
              refine (HCX.out _).mono ?_
              rintro e w2 ⟨⟨x, y, rfl, hxy⟩, b2⟩
              have G2 : Hid (w2.heap[bz]? = some (.cells C 25 (0, 0))) := Lib.hid (heap_below b2 G.out)
              have Z2 : Hid (w2.heap[w.heap.size]? = some (.cells Z 25 (0, 0))) := Lib.hid (heap_below b2 Z0.out)
              have H2 : Hid (∀ j u, ws[j]? = some u → w2.cell? ⟨g2, j, none⟩ = some (.string u)) := Lib.hid (fun j u hu => cell_below b2 _ _ (HCW.out j u hu))
              have B2 : Hid (Below w.heap.size w w2) := Lib.hid (B.out.trans (b2.mono B.out.size))
              have HXY := Lib.hid hxy
              clear G Z0 HCW B b2 HCX ck hxy
              cases hcc : (cellOf (L.getD k [])).isSome with
              | false =>
                have HR : Hid (readOf s.data.toList = none) := Lib.hid (by
                  rw [HR1.out, if_neg]
                  intro h
                  have hmem : L.getD k [] ∈ L := by
                    have hl : k < L.length := by rw [← HL.out]; exact hlt
                    rw [List.getD_eq_getElem?_getD, List.getElem?_eq_getElem hl]
                    exact List.getElem_mem hl
                  have := List.all_eq_true.1 h _ hmem
                  rw [hcc] at this
                  cases this)
                clear HXY hcc HR1
                go_wp2_with (refine wpList_store_row rfl 25 (.tmp 2) (.tmp 65) rfl w.heap.size Z rfl rfl 25 Z Z2.out HZI.out rfl HZ1.out ?_)
                refine bodyPost_ret (v := .tuple #[.agg Z, .bool false]) (results_row_tmp (fn := Tryd.f18) (p := 2) (u := 3) (ty := 25) rfl _ _ w.heap.size 25 Z (0, 0) _ rfl (setRow_heap _ _ _ _ _ _ Z2.out) Tryd.underlying25 rfl HZI.out) rfl ⟨by rw [HR.out, HZZ.out]; rfl, ?_⟩
                exact below_setRow B2.out (Nat.le_refl _) _
              | true =>
                obtain ⟨p, hp⟩ := Option.isSome_iff_exists.1 hcc
                obtain ⟨hx, hy⟩ := HXY.out p hp
                have hFk : cellF L k = (x, y) := by unfold cellF; rw [hp, hx, hy]
                have hk64 : k < 64 := by omega
                have HSET : Hid (C.setIfInBounds (1 + k) (.complex .f32 x y) = pic n (gf (cellF L) (k + 1))) := Lib.hid (by
                  have h := gf_set n (cellF L) k hk64
                  rw [hFk] at h
                  rw [HCC.out]
                  exact h)
                have hold : w2.cell? ⟨bz, 1 + k, none⟩ = some (.complex .f32 0 0) := by rw [cell_of_row _ _ _ _ _ _ G2.out, HCC.out]; exact gf_old n (cellF L) k hk64
                have hfree : w2.frozen? ⟨bz, 1 + k, none⟩ = false := frozen_of_row _ _ _ _ _ G2.out
                have hq : ((k : Nat) : Int) < 64 := by omega
                have HAL2 : Hid (∀ j, j < k + 1 → (cellOf (L.getD j [])).isSome = true) := Lib.hid (fun j hj => by
                  rcases Nat.lt_or_ge j k with h | h
                  · exact HAL.out j h
                  · obtain rfl : j = k := by omega
                    exact hcc)
                clear hcc hp hx hy hFk HXY HAL
                go_wp2
                go_roundw
                case rel => exact ⟨k + 1, C.setIfInBounds (1 + k) (.complex .f32 x y), by omega, by go_num, HSET, Lib.hid (heap_setCell_same _ _ _ _ _ _ G2.out), Lib.hid (fun j u hu => by rw [World.cell?_of_block (w := w2) (heap_setCell_other _ _ _ _ hgb2)]; exact H2.out j u hu), Lib.hid (by rw [heap_setCell_other _ _ _ _ (by show w.heap.size ≠ bz; omega)]; exact Z2.out), Lib.hid (B2.out.setCell (by show w.heap.size ≤ bz; omega) _), HAL2⟩
                case measure => simp [intOf]; omega
            · obtain rfl : k = ws.length := by omega
              have hdk : decide ((ws.length : Int) < (ws.length : Int)) = false := decide_eq_false (by omega)
              have HCI : Hid ((Tryd.prog.info? 25).map (·.size) = some C.size) := Lib.hid (by rw [HCC.out, pic_size _ _ (gf_size _ _)]; exact HS37.out)
              have HC1 : Hid (C.all (·.oneCell') = true) := Lib.hid (by rw [HCC.out]; exact gf_all_one _ _ _)
              have HZC : Hid (Z.size = C.size) := Lib.hid (by rw [HCC.out, pic_size _ _ (gf_size _ _)]; exact HZ37.out)
              have HR : Hid (readOf s.data.toList = some (n, L)) := Lib.hid (by
                rw [HR1.out, if_pos]
                refine List.all_eq_true.2 fun q hq => ?_
                obtain ⟨j, hj, rfl⟩ := List.mem_iff_getElem.1 hq
                have h := HAL.out j (by rw [HL.out]; exact hj)
                rwa [List.getD_eq_getElem?_getD, List.getElem?_eq_getElem hj] at h)
              have HCN : Hid (C = pic n (gf (cellF L) (n * n))) := Lib.hid (by rw [HCC.out, HLN.out])
              clear HCC HAL HR1 HU
              go_wp2_with (first | (refine wpList_load_row rfl 25 (.tmp 5) rfl bz rfl 25 C (0, 0) _ G.out Tryd.underlying25 rfl HCI.out ?_) | (refine wpList_store_row rfl 25 (.tmp 2) (.tmp 70) rfl w.heap.size C rfl rfl 25 Z Z0.out HCI.out HZC.out HC1.out ?_))
              refine bodyPost_ret (v := .tuple #[.agg C, .bool true]) (results_row_tmp (fn := Tryd.f18) (p := 2) (u := 3) (ty := 25) rfl _ _ w.heap.size 25 C (0, 0) _ rfl (setRow_heap _ _ _ _ _ _ Z0.out) Tryd.underlying25 rfl HCI.out) rfl ⟨by rw [HR.out, HCN.out]; rfl, ?_⟩
              exact below_setRow B.out (Nat.le_refl _) _
        · have hnq : (((ws.length : Nat) : Int) != (n : Int) * (n : Int)) = true := by rw [hnn]; simp only [bne_iff_ne, ne_eq]; omega
          have HR : Hid (readOf s.data.toList = none) := Lib.hid (by rw [HR0.out, if_neg (by rw [← HL.out]; exact hlen)])
          clear HR0 hnn
          go_wp2_with (refine wpList_store_row rfl 25 (.tmp 2) (.tmp 48) rfl w.heap.size Z rfl rfl 25 Z GR.out HZI.out rfl HZ1.out ?_)
          refine bodyPost_ret (v := .tuple #[.agg Z, .bool false]) (results_row_tmp (fn := Tryd.f18) (p := 2) (u := 3) (ty := 25) rfl _ _ w.heap.size 25 Z (0, 0) _ rfl (setRow_heap _ _ _ _ _ _ GR.out) Tryd.underlying25 rfl HZI.out) rfl ⟨by rw [HR.out, HZZ.out]; rfl, ?_⟩
          exact below_setRow BB.out (Nat.le_refl _) _
    · have haz : ((a.size : Int) != 1) = true := by simp; omega
      have HR : Hid (readOf s.data.toList = none) := Lib.hid (by
        rw [HRD.out]
        cases hsd : sideOf a.data.toList with
        | none => rfl
        | some n =>
          obtain ⟨_, _, _, h1⟩ := sideOf_small _ _ hsd
          rw [← Lib.size_eq] at h1
          exact absurd h1 ha1)
      clear HRD ha1
      go_wp2_with (refine wpList_store_row rfl 25 (.tmp 2) (.tmp 30) rfl w.heap.size Z rfl rfl 25 Z G1.out HZI.out rfl HZ1.out ?_)
      refine bodyPost_ret (v := .tuple #[.agg Z, .bool false]) (results_row_tmp (fn := Tryd.f18) (p := 2) (u := 3) (ty := 25) rfl _ _ w.heap.size 25 Z (0, 0) _ rfl (setRow_heap _ _ _ _ _ _ G1.out) Tryd.underlying25 rfl HZI.out) rfl ⟨by rw [HR.out, HZZ.out]; rfl, ?_⟩
      exact below_setRow B1.out (Nat.le_refl _) _
  · have hne2 : (((done.length : Nat) : Int) != 2) = true := by simp; omega
    have HR : Hid (readOf s.data.toList = none) := Lib.hid (by
      unfold readOf
      have h3 : (sp 58 s.data.toList).length ≠ 2 := by rw [← hd, List.length_map]; exact h2
      split
      · rename_i x y h4
        rw [h4] at h3
        exact absurd rfl h3
      · rfl)
    clear hcell hd h2 hpos
    go_wp2_with (refine wpList_store_row rfl 25 (.tmp 2) (.tmp 30) rfl w.heap.size Z rfl rfl 25 Z G1.out HZI.out rfl HZ1.out ?_)
    refine bodyPost_ret (v := .tuple #[.agg Z, .bool false]) (results_row_tmp (fn := Tryd.f18) (p := 2) (u := 3) (ty := 25) rfl _ _ w.heap.size 25 Z (0, 0) _ rfl (setRow_heap _ _ _ _ _ _ G1.out) Tryd.underlying25 rfl HZI.out) rfl ⟨by rw [HR.out, HZZ.out]; rfl, ?_⟩
    exact below_setRow B1.out (Nat.le_refl _) _
end Go.Proofs.YtjmfffgddmnkmabDoor
