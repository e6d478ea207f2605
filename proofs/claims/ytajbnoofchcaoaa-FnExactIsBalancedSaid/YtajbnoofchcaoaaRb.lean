/- The program's lists of told numbers, with the error where one is not finite. Condition: at most 64 places. -/
import Derived.Test.YtajbnoofchcaoaaRg
import Derived.Test.YtajbnoofchcaoaaRc
namespace Go.Proofs.Ytajbnoofchcaoaa
open Go Go.RowKit Go.Shelf

set_option maxRecDepth 100000 in
set_option maxHeartbeats 1600000 in
theorem build_any (n : Nat) (hn : n ≤ 64) (R : Nat → Nat → Prop) (g : Nat) (lb : Array Value) (hg : ∀ (j : Int) v, (callFunc g (#[.int .i64 j] ++ lb)).run Try.prog v = .ok (.enter g (#[.int .i64 j] ++ lb)) v)
    (w : World) (hT : Tells g lb n R w.heap.size w) :
    Calls Try.prog 70 #[.int .i64 n, .func (.func g) #[] lb] w fun e w' => ∃ L : List Nat, L.length = n ∧ (∀ j, j < n → R j (L.getD j 0)) ∧
      ((L.all fin = true ∧ ∃ v, e = .returned (.tuple #[v, .int .i64 0]) ∧ OwnF w.heap.size v L w') ∨ (L.all fin = false ∧ e = .returned (.tuple #[.slice none 0 0, .int .i64 3]))) ∧ Below w.heap.size w w' := by
  have HI := Lib.hid (inOrder_any n hn R g lb hg w hT)
  have HN := Lib.hid (numbersOf_any n hn R)
  clear hT hg
  go_enter Try.func70, Try.ntmps70
  go_wp2_with fail
  refine HI.out.mono ?_
  rintro e w1 ⟨⟨lb', rfl, hS⟩, hb1⟩
  have HS := Lib.hid hS
  have B1 := Lib.hid hb1
  clear hS hb1
  go_wp2_with fail
  refine (HN.out _ _ HS.out).mono ?_
  rintro e w2 ⟨v, L, rfl, hO, hlen, hR, hb2⟩
  have HO := Lib.hid (hO.mono B1.out.size)
  have HL := Lib.hid hlen
  have HRR := Lib.hid hR
  have B2 := Lib.hid (B1.out.trans (hb2.mono B1.out.size))
  have HF := Lib.hid (finNums_any _ v L w2 hO (by omega))
  clear hO hlen hR hb2
  go_wp2_with fail
  refine HF.out.mono ?_
  rintro e w3 ⟨⟨d, rfl⟩, h⟩
  have HO2 : Hid (OwnF w.heap.size v L (w2.drewN d)) := Lib.hid HO.out
  have B3 := Lib.hid (below_drewN B2.out d)
  generalize w2.drewN d = w3 at *
  clear HO B2 HF
  rcases h with ⟨h1, rfl⟩ | ⟨h1, rfl⟩
  · have HA := Lib.hid h1
    clear h1
    go_wp2_with fail
    go_ret2
    exact ⟨L, HL.out, HRR.out, .inl ⟨HA.out, v, rfl, HO2.out⟩, B3.out⟩
  · have HA := Lib.hid h1
    clear h1
    go_wp2_with fail
    go_ret2
    exact ⟨L, HL.out, HRR.out, .inr ⟨HA.out, rfl⟩, B3.out⟩

end Go.Proofs.Ytajbnoofchcaoaa
