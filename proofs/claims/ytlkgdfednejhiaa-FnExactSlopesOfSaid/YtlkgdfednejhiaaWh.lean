/- WrapHeights: program and model answer the list of the wrapped heights, or nothing and the code of what is no height map. Condition: a list that a law lets in. -/
import Derived.Test.YtlkgdfednejhiaaHrr
import Derived.Test.YtlkgdfednejhiaaHs
namespace Go.Proofs.Ytlkgdfednejhiaa
open Go Go.RowKit

def resWh (n : Int) (L : List Int) : List Int := if isMap n L then L.map wrapH else []
def codeM (n : Int) (L : List Int) : Int := if isMap n L then 0 else 1

theorem isMap_le {n : Int} {L : List Int} (h : isMap n L = true) : L.length ≤ 64 := by
  obtain ⟨m, _, _, h1, h2⟩ := isMap_nat h
  rw [h2]; exact Nat.mul_le_mul h1 h1
theorem resWh_len (n : Int) (L : List Int) : (resWh n L).length ≤ 1048576 := by
  unfold resWh
  split
  · rename_i h
    rw [List.length_map]
    have := isMap_le h
    omega
  · exact Nat.zero_le _

theorem map_take_succ (f : Int → Int) (L : List Int) (k : Nat) (hk : k < L.length) : (L.take k).map f ++ [f (L.getD k 0)] = (L.take (k + 1)).map f := by
  rw [take_succ_getD L k hk, List.map_append]; rfl

set_option maxRecDepth 100000 in
set_option maxHeartbeats 800000 in
theorem specWh (n : Int) (L : List Int) : Lists 35 n L (resWh n L) (codeM n L) := by
  intro hn v w hO
  obtain ⟨a, cap, rfl, hC⟩ := hO.came
  have HI := Lib.hid (specIs7_any n a L.length cap L w hC hn)
  have HR : Hid (resWh n L = if isMap n L then L.map wrapH else []) := Lib.hid rfl
  have HM : Hid (codeM n L = if isMap n L then 0 else 1) := Lib.hid rfl
  have H1 := Lib.hid hC
  have HN := Lib.hid hn
  clear hC hO
  generalize isMap n L = p at *
  generalize resWh n L = R at *
  generalize codeM n L = c at *
  cases p
  · obtain rfl := HR.out
    obtain rfl := HM.out
    go_enter Try.func35, Try.ntmps35
    go_wp2_with fail
    refine HI.out.mono ?_
    rintro e w1 ⟨rfl, rfl⟩
    go_wp2_with fail
    go_ret2
    exact ⟨_, rfl, Own.zero _ _, Below.refl _ _⟩
  · obtain rfl := HR.out
    obtain rfl := HM.out
    go_enter Try.func35, Try.ntmps35
    go_wp2_with fail
    refine HI.out.mono ?_
    rintro e w1 ⟨rfl, rfl⟩
    generalize hm : L.length = m at *
    have HL := Lib.hid hm
    clear hm
    go_wp2_with fail
    go_loopw [6, 7] (fun v i wr => ∃ k : Nat, k ≤ m ∧ i = .int .i64 k ∧ Hid (Own w.heap.size v ((L.take k).map wrapH) wr) ∧ Hid (Below w.heap.size w wr)) (fun _ i _ => m - (intOf i).toNat)
    case atStart => exact ⟨0, by omega, rfl, Lib.hid (Own.empty _ _ (Nat.le_refl _)), Lib.hid ((Below.refl _ _).alloc (Nat.le_refl _) _)⟩
    case round =>
      obtain ⟨k, hk, rfl, O, B⟩ := hrel
      by_cases hlt : k < m
      · have hdk : decide ((k : Int) < (m : Int)) = true := by simp; omega
        obtain ⟨b1, o1, rfl, hb1, hc1⟩ := H1.out.2 (by omega)
        have p1 := (B.out.cell (p := ⟨b1, o1 + k, none⟩) hb1).trans (hc1 k hlt)
        have HX := Lib.hid (map_take_succ wrapH L k (by rw [HL.out]; exact hlt))
        have HZ : Hid (((L.take k).map wrapH).length ≤ 1048576) := Lib.hid (by rw [List.length_map, List.length_take]; omega)
        clear hb1 hc1
        generalize L.getD k 0 = x at *
        generalize (L.take k).map wrapH = M at *
        go_wp2_with fail
        refine (l07Wrap_any x _).mono ?_
        rintro e w1 ⟨rfl, rfl⟩
        go_wp2_with (at_builtin; refine wpList_push rfl (.tmp 19) (.tmp 25) rfl w.heap.size _ M (wrapH x) rfl rfl O.out HZ.out B.out.size ?_)
        intro v' w2 O2 B2
        have O3 := Lib.hid (O2.one HX.out)
        have B3 := Lib.hid (B.out.trans B2)
        clear O2 B2
        go_wp2
        exact ⟨⟨k + 1, by omega, by go_num, O3, B3⟩, by simp [intOf]; omega⟩
      · obtain rfl : k = m := by omega
        have O3 := O.out
        rw [List.take_of_length_le (by rw [HL.out]; exact Nat.le_refl _)] at O3
        have O4 := Lib.hid O3
        clear O3
        go_wp2
        go_ret2
        exact ⟨_, rfl, O4.out, B.out⟩

theorem pre_map_len (f : Int → Int) (L : List Int) (n k : Nat) (h : L.length = n) (hk : k ≤ n) : (pre (L.map f) n k).length = n := pre_len _ _ _ (by rw [List.length_map]; exact h) hk
theorem getD_map (f : Int → Int) (L : List Int) (k : Nat) (hk : k < L.length) : (L.map f).getD k 0 = f (L.getD k 0) := by
  rw [List.getD_eq_getElem?_getD, List.getD_eq_getElem?_getD, List.getElem?_map, List.getElem?_eq_getElem hk]; rfl

set_option maxRecDepth 100000 in
set_option maxHeartbeats 800000 in
theorem implWh (n : Int) (L : List Int) : Lists 18 n L (resWh n L) (codeM n L) := by
  intro hn v w hO
  obtain ⟨a, cap, rfl, hC⟩ := hO.came
  have HI := Lib.hid (implIs_any n a L.length cap L w hC hn)
  have HR : Hid (resWh n L = if isMap n L then L.map wrapH else []) := Lib.hid rfl
  have HM : Hid (codeM n L = if isMap n L then 0 else 1) := Lib.hid rfl
  have H1 := Lib.hid hC
  have HN := Lib.hid hn
  clear hC hO
  generalize isMap n L = p at *
  generalize resWh n L = R at *
  generalize codeM n L = c at *
  cases p
  · obtain rfl := HR.out
    obtain rfl := HM.out
    go_enter Try.func18, Try.ntmps18
    go_wp2_with fail
    refine HI.out.mono ?_
    rintro e w1 ⟨rfl, rfl⟩
    go_wp2_with fail
    go_ret2
    exact ⟨_, rfl, Own.zero _ _, Below.refl _ _⟩
  · obtain rfl := HR.out
    obtain rfl := HM.out
    obtain ⟨i0, hi, hz0, hz1, hz2⟩ := info_parts info64
    generalize hm : L.length = m at *
    have HL := Lib.hid hm
    clear hm
    go_enter Try.func18, Try.ntmps18
    go_wp2_with fail
    refine HI.out.mono ?_
    rintro e w1 ⟨rfl, rfl⟩
    go_wp2_with (refine wpList_make_full _ rfl _ _ 24 rfl w.heap.size 2 i0 (.int .i64 0) 1 Try.underlying24 hi hz0 hz1 .i64 .i64 m m m rfl rfl rfl rfl ?b2 ?b3 (Nat.le_refl _) ?_)
    case b2 => rw [hz2]; omega
    case b3 => unfold maxLen; omega
    intro w1 hown hgrow
    have O1 : Hid (Own w.heap.size (.slice (some ⟨w.heap.size, 0, none⟩) m m) (pre (L.map wrapH) m 0) w1) := by
      refine Lib.hid ?_
      have e : (madeCells #[Value.int .i64 0] m).toList = (pre (L.map wrapH) m 0).map (Value.int .i64) := by
        rw [toList_madeCells_one]
        simp [pre]
      rw [e] at hown
      unfold Own
      rw [pre_map_len wrapH L m 0 HL.out (Nat.zero_le _)]
      exact hown
    have B1 : Hid (Below w.heap.size w w1) := Lib.hid ((Below.refl _ _).grown hgrow (Nat.le_refl _) (fun k hk => by cases hk))
    clear hown hgrow hi hz0 hz1 hz2
    go_wp2
    go_loopw [18] (fun i wr => ∃ k : Nat, k ≤ m ∧ i = .int .i64 k ∧ Hid (Own w.heap.size (.slice (some ⟨w.heap.size, 0, none⟩) m m) (pre (L.map wrapH) m k) wr) ∧ Hid (Below w.heap.size w wr)) (fun i _ => m - (intOf i).toNat)
    case atStart => exact ⟨0, by omega, rfl, O1, B1⟩
    case round =>
      obtain ⟨k, hk, rfl, O2, B2⟩ := hrel
      by_cases hlt : k < m
      · have hdk : decide ((k : Int) < (m : Int)) = true := by simp; omega
        obtain ⟨b, off, rfl, hb, hc⟩ := H1.out.2 (by omega)
        have c := (B2.out.cell (p := ⟨b, off + k, none⟩) hb).trans (hc k hlt)
        have hl := pre_map_len wrapH L m k HL.out hk
        have o2 : Own w.heap.size (.slice (some ⟨w.heap.size, 0, none⟩) (pre (L.map wrapH) m k).length m) (pre (L.map wrapH) m k) wr := by rw [hl]; exact O2.out
        have f := o2.free k
        have c2 := o2.cell k (by omega)
        have O3 : Hid (Own w.heap.size (.slice (some ⟨w.heap.size, 0, none⟩) m m) (pre (L.map wrapH) m (k + 1)) (wr.setCell ⟨w.heap.size, k, none⟩ (.int .i64 (wrapH (L.getD k 0))))) := by
          refine Lib.hid ?_
          have := o2.stored k (wrapH (L.getD k 0))
          rw [← getD_map wrapH L k (by rw [HL.out]; exact hlt), pre_set (L.map wrapH) m k (by rw [List.length_map]; exact HL.out) hlt, hl] at this
          rw [← getD_map wrapH L k (by rw [HL.out]; exact hlt)]
          exact this
        have B3 := Lib.hid (B2.out.setCell (p := ⟨w.heap.size, k, none⟩) (Nat.le_refl _) (.int .i64 (wrapH (L.getD k 0))))
        clear hb hc hl o2
        generalize L.getD k 0 = x at *
        generalize (pre (L.map wrapH) m k).getD k 0 = y at *
        go_wp2_with fail
        refine (remainder_any x _).mono ?_
        rintro e w1 ⟨rfl, rfl⟩
        go_wp2
        exact ⟨⟨k + 1, by omega, by go_num, O3, B3⟩, by simp [intOf]; omega⟩
      · obtain rfl : k = m := by omega
        have O3 := O2.out
        rw [pre_all (L.map wrapH) k (by rw [List.length_map]; exact HL.out)] at O3
        have O4 := Lib.hid O3
        clear O3
        go_wp2
        go_ret2
        exact ⟨_, rfl, O4.out, B2.out⟩

end Go.Proofs.Ytlkgdfednejhiaa
