/- The program's parseComplex. Condition: what the library's variables hold, and texts up to 2^20 bytes. -/
import Derived.Test.YtjmfffgddmnkmabDoorRd
namespace Go.Proofs.YtjmfffgddmnkmabDoor
open Go Go.RowKit

theorem inPl_any (k : Int) (w : World) : Calls Tryd.prog 57 #[.int .i64 k, .int .i64 2139095039] w fun e w' => e = .returned (.bool (inPl k)) ∧ w = w' := by
  by_cases h1 : -2139095039 ≤ k
  · by_cases h2 : k ≤ 2139095039
    · have e : inPl k = true := by simp [inPl, h1, h2]
      rw [e]
      go_enter Tryd.func57, Tryd.ntmps57
      go_wp2
      go_ret
      exact ⟨rfl, rfl⟩
    · have e : inPl k = false := by simp [inPl, h2]
      rw [e]
      go_enter Tryd.func57, Tryd.ntmps57
      go_wp2
      go_ret
      exact ⟨rfl, rfl⟩
  · have e : inPl k = false := by simp [inPl, h1]
    rw [e]
    go_enter Tryd.func57, Tryd.ntmps57
    go_wp2
    go_ret
    exact ⟨rfl, rfl⟩
theorem cut_sizes (c : UInt8) (l : List UInt8) : (Lib.cut l [c]).1.length ≤ l.length ∧ (Lib.cut l [c]).2.1.length ≤ l.length := by
  unfold Lib.cut
  split
  · constructor
    · simp; omega
    · simp
  · simp
/-- what parseInteger hands out for a number, or none -/
theorem pairOf_form (o : Option Int) : ∃ v, pairOf o = .tuple #[.int .i64 v, .bool o.isSome] ∧ ∀ x, o = some x → v = x := by
  cases o with
  | none => exact ⟨0, rfl, fun x h => by cases h⟩
  | some x => exact ⟨x, rfl, fun y h => by injection h⟩

set_option maxRecDepth 100000 in
set_option maxHeartbeats 2000000 in
theorem parseC_any (s : ByteArray) (hs : s.size ≤ 1048576) (w : World) (hw : Env w) : Calls Tryd.prog 23 #[.string s] w fun e w' =>
    (∃ x y, e = .returned (.tuple #[.complex .f32 x y, .bool (cellOf s.data.toList).isSome]) ∧ ∀ p, cellOf s.data.toList = some p → x = placeBits p.1 ∧ y = placeBits p.2) ∧ Below w.heap.size w w' := by
  have hcp := cell_prog s.data.toList
  have hcs := cell_prog_some s.data.toList
  obtain ⟨hl1, hl2⟩ := cut_sizes 44 s.data.toList
  have hCut : ∃ n : Nat, True := ⟨0, trivial⟩
  obtain ⟨m, hm⟩ := hw.maxLen
  have HC : Hid (Calls Tryd.prog 19 #[.string s, .string ⟨#[44]⟩] w fun e w' => e = .returned (.tuple #[.string ⟨(Lib.cut s.data.toList [44]).1.toArray⟩, .string ⟨(Lib.cut s.data.toList [44]).2.1.toArray⟩, .bool (Lib.cut s.data.toList [44]).2.2]) ∧ ∃ n, w' = w.drewN n) := Lib.hid (Tryd.strings_Cut s ⟨#[44]⟩ m w (by omega) hm)
  obtain ⟨A, hA⟩ : ∃ A : ByteArray, A = ⟨(Lib.cut s.data.toList [44]).1.toArray⟩ := ⟨_, rfl⟩
  obtain ⟨B, hB⟩ : ∃ B : ByteArray, B = ⟨(Lib.cut s.data.toList [44]).2.1.toArray⟩ := ⟨_, rfl⟩
  have hAl : A.data.toList = (Lib.cut s.data.toList [44]).1 := by rw [hA]
  have hBl : B.data.toList = (Lib.cut s.data.toList [44]).2.1 := by rw [hB]
  rw [← hA, ← hB] at HC
  rw [← hAl, ← hBl] at hcp
  rw [← hAl, ← hBl] at hcs
  have hA1 : A.size ≤ 1048576 := by rw [Lib.size_eq, hAl]; rw [← Lib.size_eq] at hl1; omega
  have hB1 : B.size ≤ 1048576 := by rw [Lib.size_eq, hBl]; rw [← Lib.size_eq] at hl2; omega
  have HPA : Hid (∀ w, Env w → Calls Tryd.prog 20 #[.string A, .int .i64 16] w fun e w' => e = .returned (pairOf (numOf 16 A.data.toList)) ∧ Below w.heap.size w w') := Lib.hid fun w hw => parseInteger_any 16 (.inl rfl) A (by omega) w hw
  have HPB : Hid (∀ w, Env w → Calls Tryd.prog 20 #[.string B, .int .i64 16] w fun e w' => e = .returned (pairOf (numOf 16 B.data.toList)) ∧ Below w.heap.size w w') := Lib.hid fun w hw => parseInteger_any 16 (.inl rfl) B (by omega) w hw
  rw [numOf_16] at HPA HPB
  obtain ⟨va, ea, pa⟩ := pairOf_form (partOf A.data.toList)
  obtain ⟨vb, eb, pb⟩ := pairOf_form (partOf B.data.toList)
  rw [ea] at HPA
  rw [eb] at HPB
  have hna : nearP (partOf A.data.toList) = ((partOf A.data.toList).isSome && inPl va) := by
    cases h : partOf A.data.toList with
    | none => rfl
    | some x => rw [pa x h]; rfl
  have hnb : nearP (partOf B.data.toList) = ((partOf B.data.toList).isSome && inPl vb) := by
    cases h : partOf B.data.toList with
    | none => rfl
    | some x => rw [pb x h]; rfl
  rw [hna, hnb] at hcp
  have HI := Lib.hid hcp
  have HX : Hid (∀ p, cellOf s.data.toList = some p → va = p.1 ∧ vb = p.2) := Lib.hid fun p hp => ⟨pa _ (hcs p hp).2.1, pb _ (hcs p hp).2.2⟩
  have HIA := Lib.hid (inPl_any va)
  have HIB := Lib.hid (inPl_any vb)
  have HWE := Lib.hid hw
  have HNA := Lib.hid (number_any va)
  have HNB := Lib.hid (number_any vb)
  have hpa : inPl va = true → -2139095039 ≤ va ∧ va ≤ 2139095039 := fun h => by simpa [inPl] using h
  have hpb : inPl vb = true → -2139095039 ≤ vb ∧ vb ≤ 2139095039 := fun h => by simpa [inPl] using h
  clear hcp hcs hl1 hl2 hA hB hAl hBl hA1 hB1 ea eb pa pb hna hnb hw hm hCut
  generalize (Lib.cut s.data.toList [44]).2.2 = f at *
  generalize (partOf A.data.toList).isSome = ba at *
  generalize (partOf B.data.toList).isSome = bb at *
  generalize inPl va = ia at *
  generalize inPl vb = ib at *
  go_enter Tryd.func23, Tryd.ntmps23
  go_wp2_with fail
  refine HC.out.mono ?_
  rintro e w1 ⟨rfl, n1, rfl⟩
  have B1 : Hid (Below w.heap.size w (w.drewN n1)) := Lib.hid (below_drewN (Below.refl _ _) n1)
  generalize w.drewN n1 = w1 at *
  go_wp2_with fail
  refine (HPA.out w1 (HWE.out.below B1.out)).mono ?_
  rintro e w2 ⟨rfl, b2⟩
  have B2 : Hid (Below w.heap.size w w2) := Lib.hid (B1.out.trans (b2.mono B1.out.size))
  clear b2
  go_wp2_with fail
  refine (HPB.out w2 (HWE.out.below B2.out)).mono ?_
  rintro e w3 ⟨rfl, b3⟩
  have B3 : Hid (Below w.heap.size w w3) := Lib.hid (B2.out.trans (b3.mono B2.out.size))
  clear b3 HPA HPB HC
  cases f
  · go_wp2
    go_ret2
    exact ⟨⟨0, 0, by rw [HI.out]; rfl, fun p hp => by have := HI.out; rw [hp] at this; cases this⟩, B3.out⟩
  cases ba
  · go_wp2
    go_ret2
    exact ⟨⟨0, 0, by rw [HI.out]; rfl, fun p hp => by have := HI.out; rw [hp] at this; cases this⟩, B3.out⟩
  cases bb
  · go_wp2
    go_ret2
    exact ⟨⟨0, 0, by rw [HI.out]; cases ia <;> rfl, fun p hp => by have := HI.out; rw [hp] at this; cases ia <;> cases this⟩, B3.out⟩
  cases ia
  · go_wp2_with fail
    refine (HIA.out _).mono ?_
    rintro e w' ⟨rfl, rfl⟩
    go_wp2
    go_ret2
    exact ⟨⟨0, 0, by rw [HI.out]; rfl, fun p hp => by have := HI.out; rw [hp] at this; cases this⟩, B3.out⟩
  cases ib
  · go_wp2_with fail
    refine (HIA.out _).mono ?_
    rintro e w' ⟨rfl, rfl⟩
    go_wp2_with fail
    refine (HIB.out _).mono ?_
    rintro e w' ⟨rfl, rfl⟩
    go_wp2
    go_ret2
    exact ⟨⟨0, 0, by rw [HI.out]; rfl, fun p hp => by have := HI.out; rw [hp] at this; cases this⟩, B3.out⟩
  · have q1 := hpa rfl
    have q2 := hpb rfl
    go_wp2_with fail
    refine (HIA.out _).mono ?_
    rintro e w' ⟨rfl, rfl⟩
    go_wp2_with fail
    refine (HIB.out _).mono ?_
    rintro e w' ⟨rfl, rfl⟩
    go_wp2_with fail
    refine (HNA.out q1 _).mono ?_
    rintro e w' ⟨rfl, hw'⟩
    obtain rfl := hw'.symm
    go_wp2_with fail
    refine (HNB.out q2 _).mono ?_
    rintro e w' ⟨rfl, hw'⟩
    obtain rfl := hw'.symm
    go_wp2
    go_ret2
    exact ⟨⟨placeBits va, placeBits vb, by rw [HI.out]; rfl, fun p hp => by rw [(HX.out p hp).1, (HX.out p hp).2]; exact ⟨rfl, rfl⟩⟩, B3.out⟩
end Go.Proofs.YtjmfffgddmnkmabDoor
