/- The draws of the law of unwrapping: maps, two heights, a map with a mask and a place. Condition: a code that can be read. -/
import Derived.Test.YtjmfffgddmnkmacFdl
import Derived.Test.YtjmfffgddmnkmacFdv
namespace Go.Proofs.Ytjmfffgddmnkmac
open Go Go.RowKit

/-- a map was drawn, all memory as it was -/
def MapW (w : World) (e : Ending) (w' : World) : Prop := ∃ (n : Int) (v : Value) (L : List Int), e = .returned (.tuple #[.int .i64 n, v]) ∧ L.length ≤ 65 ∧ Own w.heap.size v L w' ∧ Below w.heap.size w w'

set_option maxRecDepth 100000 in
set_option maxHeartbeats 800000 in
theorem drawUr_any (ad : Option Addr) (len cap : Nat) (w : World) (hc : Code ad len w) : Calls Try.prog 6 #[.slice ad len cap] w (MapW w) := by
  go_enter Try.func6, Try.ntmps6
  go_wp2_with fail
  refine (from_any ad len cap w hc).mono ?_
  rintro e w1 ⟨p, rfl, hp, hp2, s1, b1⟩
  go_wp2_with fail
  refine (l07Map_any p true w1 s1).mono ?_
  rintro e w2 ⟨n, v, L, rfl, hL, o2, s2, t2, _⟩
  obtain ⟨a, c, rfl, _⟩ := o2.came
  have HL := Lib.hid hL
  have O2 := Lib.hid (o2.mono b1.size)
  have B2 := Lib.hid (t2.after b1 hp (Nat.le_refl _))
  clear o2 s2 t2 b1 s1 hL
  go_wp2_with fail
  go_ret2
  exact ⟨_, _, L, rfl, HL.out, O2.out, B2.out⟩

set_option maxRecDepth 100000 in
set_option maxHeartbeats 800000 in
theorem drawSl_any (ad : Option Addr) (len cap : Nat) (w : World) (hc : Code ad len w) : Calls Try.prog 20 #[.slice ad len cap] w (MapW w) := by
  go_enter Try.func20, Try.ntmps20
  go_wp2_with fail
  refine (from_any ad len cap w hc).mono ?_
  rintro e w1 ⟨p, rfl, hp, hp2, s1, b1⟩
  go_wp2_with fail
  refine (l07Map_any p false w1 s1).mono ?_
  rintro e w2 ⟨n, v, L, rfl, hL, o2, s2, t2, _⟩
  obtain ⟨a, c, rfl, _⟩ := o2.came
  have HL := Lib.hid hL
  have O2 := Lib.hid (o2.mono b1.size)
  have B2 := Lib.hid (t2.after b1 hp (Nat.le_refl _))
  clear o2 s2 t2 b1 s1 hL
  go_wp2_with fail
  go_ret2
  exact ⟨_, _, L, rfl, HL.out, O2.out, B2.out⟩

set_option maxRecDepth 100000 in
set_option maxHeartbeats 1600000 in
theorem drawWd_any (ad : Option Addr) (len cap : Nat) (w : World) (hc : Code ad len w) : Calls Try.prog 17 #[.slice ad len cap] w fun e w' => ∃ h k : Int, e = .returned (.tuple #[.int .i64 h, .int .i64 k]) ∧ Below w.heap.size w w' := by
  go_enter Try.func17, Try.ntmps17
  go_wp2_with fail
  refine (from_any ad len cap w hc).mono ?_
  rintro e w1 ⟨p, rfl, hp, hp2, s1, b1⟩
  have S1 := Lib.hid s1
  have B1 := Lib.hid b1
  clear s1 b1
  go_wp2_with fail
  refine (next_any p 64 _ S1.out).mono ?_
  rintro e w2 ⟨r1, rfl, _, _, s2, o2⟩
  have S2 := Lib.hid s2
  have T2 := Lib.hid o2
  clear s2 o2
  go_wp2_with fail
  refine (next_any p 400 _ S2.out).mono ?_
  rintro e w3 ⟨r2, rfl, r20, r21, s3, o3⟩
  have hw : IntKind.i64.wrap (r2 - 200) = r2 - 200 := IntWalk.i64_in _ (by omega)
  have S3 := Lib.hid s3
  have T3 := Lib.hid (T2.out.trans o3)
  clear s3 o3
  go_wp2_with fail
  refine (pick_lit p [r1, r2 - 200, 100000, 100001] w3 S3.out (by simp) (by simp)).mono ?_
  rintro e w4 ⟨h, _, rfl, s4, o4⟩
  have S4 := Lib.hid s4
  have T4 := Lib.hid (T3.out.trans o4)
  clear s4 o4 r20 r21 hw
  go_wp2_with fail
  refine (next_any p 64 _ S4.out).mono ?_
  rintro e w5 ⟨r3, rfl, _, _, s5, o5⟩
  have S5 := Lib.hid s5
  have T5 := Lib.hid (T4.out.trans o5)
  clear s5 o5
  go_wp2_with fail
  refine (next_any p 400 _ S5.out).mono ?_
  rintro e w6 ⟨r4, rfl, r40, r41, s6, o6⟩
  have hw : IntKind.i64.wrap (r4 - 200) = r4 - 200 := IntWalk.i64_in _ (by omega)
  have S6 := Lib.hid s6
  have T6 := Lib.hid (T5.out.trans o6)
  clear s6 o6
  go_wp2_with fail
  refine (pick_lit p [r3, r4 - 200, -100000, -100001] w6 S6.out (by simp) (by simp)).mono ?_
  rintro e w7 ⟨k, _, rfl, s7, o7⟩
  have B7 := Lib.hid ((T6.out.trans o7).after B1.out hp (Nat.le_refl _))
  clear s7 o7
  go_wp2_with fail
  go_ret2
  exact ⟨_, _, rfl, B7.out⟩

theorem results_five {P : Program} {fn : Func} {t1 t2 p t3 t4 : Tmp} {ty : TypeId} (h : fn.results = #[.tmp t1, .tmp t2, .cell p ty, .tmp t3, .tmp t4]) (tmps : Array Value) (w : World) (g : Nat) (t : TypeId) (cs : Array Value) (fr : Nat × Nat) (d : TypeDesc)
    (hp : tmps.getD p undef = .pointer (some ⟨g, 0, none⟩)) (hg : w.heap[g]? = some (.cells cs t fr))
    (hu : P.underlying ty = some d) (hd : (match d with | .struct _ | .array _ _ => true | _ => false) = true) (hi : (P.info? ty).map (·.size) = some cs.size) :
    (results fn tmps).run P w = .ok (.tuple #[tmps.getD t1 undef, tmps.getD t2 undef, .agg cs, tmps.getD t3 undef, tmps.getD t4 undef]) w := by
  have hp' : tmps[p]?.getD undef = .pointer (some ⟨g, 0, none⟩) := by simpa using hp
  simp only [results, h]
  simp [asAddr, hp', run_loadVar_row w g t ty cs fr d hg hu hd hi]

end Go.Proofs.Ytjmfffgddmnkmac
