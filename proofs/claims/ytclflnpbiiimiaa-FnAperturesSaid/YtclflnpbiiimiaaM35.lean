/- The program's code of Legendre: squares, the iterator, the function. Condition: none. The program's LegendreCode: the list and the code, whatever the number is. Condition: none. -/
import Derived.Test.YtclflnpbiiimiaaRx
namespace Go.Proofs.Ytclflnpbiiimiaa
open Go Go.RowKit Go.Shelf Ieee

theorem prime_any (p : Int) (w : World) : Calls Try.prog 25 #[.int .i64 p] w fun e w' => e = .returned (.bool (prI p)) ∧ w = w' := by
  cases h : prI p
  · unfold prI at h
    simp only [Bool.or_eq_false_iff] at h
    obtain ⟨⟨⟨⟨⟨h1, h2⟩, h3⟩, h4⟩, h5⟩, h6⟩ := h
    go_enter Try.func25, Try.ntmps25
    go_wp2
    go_ret
    exact ⟨rfl, rfl⟩
  · rcases prI_yes h with rfl | rfl | rfl | rfl | rfl | rfl
    all_goals exact calls_of (fun _ => false) (known_none _) 99 (fun cs => by kernel_rfl)

/-- the squares up to q's, among the remainders by p -/
def sqTo (p q : Nat) : List Bool := (List.range p).map (fun j => (List.range q).any (fun k => k * k % p == j))
theorem sqTo_len (p q : Nat) : (sqTo p q).length = p := by simp [sqTo]
theorem map_no : ∀ p : Nat, (List.range p).map (fun _ => false) = List.replicate p false
  | 0 => rfl
  | n + 1 => by rw [List.range_succ, List.map_append, map_no n, List.replicate_succ']; rfl
theorem sqTo_zero (p : Nat) : sqTo p 0 = List.replicate p false := map_no p
theorem sqTo_succ (p q : Nat) (hp : 0 < p) : (sqTo p q).set (q * q % p) true = sqTo p (q + 1) := by
  apply List.ext_getElem?
  intro j
  rw [List.getElem?_set, sqTo_len]
  by_cases hj : j < p
  · unfold sqTo
    rw [List.getElem?_map, List.getElem?_map, List.getElem?_range hj]
    by_cases e : q * q % p = j
    · rw [if_pos e, if_pos (by rw [e]; exact hj)]
      simp [List.range_succ, e]
    · rw [if_neg e]
      simp [List.range_succ, e]
  · have : q * q % p < p := Nat.mod_lt _ hp
    rw [if_neg (by omega), List.getElem?_eq_none (by rw [sqTo_len]; omega), List.getElem?_eq_none (by rw [sqTo_len]; omega)]
theorem sqTo_leg (p j : Nat) (hj : j < p) : (sqTo p p).getD j false = (List.range p).any (fun k => k * k % p == j) := by simp [sqTo, List.getD_eq_getElem?_getD, hj]
theorem leg_sq (p j : Nat) (hj : j < p) : sg (!(sqTo p p).getD j false) = leg p j := by
  rw [sqTo_leg p j hj]
  unfold leg legTo
  cases (List.range p).any (fun k => k * k % p == j) <;> rfl

/-- a list of truths of a call's own -/
def OwnT (B : Nat) (v : Value) (L : List Bool) (w : World) : Prop := w.ownsRow B 4 1 v L.length (L.map Value.bool)
theorem infoT : (Try.prog.info? 4).map (fun i => (i.zero, i.size, i.bytes)) = some (some (.bool false), 1, 1) := by kernel_rfl
theorem map_getDT (L : List Bool) (i : Nat) (h : i < L.length) : (L.map Value.bool)[i]? = some (.bool (L.getD i false)) := by
  simp [List.getD_eq_getElem?_getD, h]

theorem OwnT.cell {B g cap : Nat} {L : List Bool} {w : World} (h : OwnT B (.slice (some ⟨g, 0, none⟩) L.length cap) L w) (i : Nat) (hi : i < L.length) :
    w.cell? ⟨g, i, none⟩ = some (.bool (L.getD i false)) := by
  rw [World.ownsRow.cellAt h i (by omega)]
  exact map_getDT L i hi
theorem OwnT.free {B g cap : Nat} {L : List Bool} {w : World} (h : OwnT B (.slice (some ⟨g, 0, none⟩) L.length cap) L w) (i : Nat) : w.frozen? ⟨g, i, none⟩ = false := World.ownsRow.frozenAt h _
theorem OwnT.stored {B g cap : Nat} {L : List Bool} {w : World} (h : OwnT B (.slice (some ⟨g, 0, none⟩) L.length cap) L w) (i : Nat) (x : Bool) :
    OwnT B (.slice (some ⟨g, 0, none⟩) L.length cap) (L.set i x) (w.setCell ⟨g, i, none⟩ (.bool x)) := by
  have h1 := (World.ownsRow.stored h i (.bool x)).1
  unfold OwnT
  rw [List.length_set, List.map_set]
  exact h1

set_option maxRecDepth 100000 in
theorem legAt_any (p j B g b0 : Nat) (hj : j < p) (w : World) (hc : w.cell? ⟨B, 0, none⟩ = some (.slice (some ⟨g, 0, none⟩) p p)) (hO : OwnT b0 (.slice (some ⟨g, 0, none⟩) p p) (sqTo p p) w) :
    Calls Try.prog 54 #[.int .i64 (j : Int), .pointer (some ⟨B, 0, none⟩)] w fun e w' => e = .returned (.float .f32 (leg p j)) ∧ w = w' := by
  have hl := sqTo_len p p
  have o2 : OwnT b0 (.slice (some ⟨g, 0, none⟩) (sqTo p p).length p) (sqTo p p) w := by rw [hl]; exact hO
  have c1 := o2.cell j (by omega)
  have HE := Lib.hid (leg_sq p j hj)
  generalize leg p j = r at *
  clear o2 hO hl
  generalize (sqTo p p).getD j false = t at *
  have HS := Lib.hid (signIf_any t)
  go_enter Try.func54, Try.ntmps54
  go_wp2_with fail
  refine (HS.out _).mono ?_
  rintro e w1 ⟨rfl, rfl⟩
  rw [HE.out]
  go_wp2_with fail
  go_ret
  exact ⟨rfl, rfl⟩

theorem legendre_enters : ∀ (args : Array Value) w, (callFunc 54 args).run Try.prog w = .ok (.enter 54 args) w := enters_of Try.func54 (by kernel_rfl) rfl

set_option maxRecDepth 100000 in
set_option maxHeartbeats 1600000 in
theorem legendre_any (p : Nat) (hp : p ≤ 64) (hp0 : 0 < p) : Makes 27 #[.int .i64 (p : Int)] p (fun j v => v = leg p j) := by
  obtain ⟨i0, hi, hz0, hz1, hz2⟩ := info_parts infoT
  intro w
  have hmf : ∀ (fn : Fn) (first cap : Array Value) (w : World), (Instr.makeFunc fn first cap).run Try.prog w = .ok (.func fn first cap) w := fun _ _ _ _ => rfl
  go_enter Try.func27, Try.ntmps27
  go_wp2_with (refine wpList_make_full _ rfl _ _ 70 rfl w.heap.size 4 i0 (.bool false) 1 Try.underlying70 hi hz0 hz1 .i64 .i64 p p p rfl rfl rfl rfl ?b2 ?b3 (Nat.le_refl _) ?_)
  case b2 => rw [hz2]; omega
  case b3 => unfold maxLen; omega
  intro w1 hown hgrow
  have O1 : Hid (OwnT w.heap.size (.slice (some ⟨w.heap.size, 0, none⟩) p p) (sqTo p 0) w1) := by
    refine Lib.hid ?_
    have e : (madeCells #[Value.bool false] p).toList = (sqTo p 0).map Value.bool := by
      rw [toList_madeCells_one, sqTo_zero]
      simp
    rw [e] at hown
    unfold OwnT
    rw [sqTo_len]
    exact hown
  have hB1 : Below w.heap.size w w1 := (Below.refl _ _).grown hgrow (Nat.le_refl _) (fun k hk => by cases hk)
  have hsz := hB1.size
  clear hown hgrow hi hz0 hz1 hz2
  go_wp2_with fail
  have hBx := Boxed.new w1 70 (.slice (some ⟨w.heap.size, 0, none⟩) p p)
  have B2 := Lib.hid (hB1.alloc hsz (.cells #[.slice (some ⟨w.heap.size, 0, none⟩) p p] 70))
  have O2 : Hid (OwnT w.heap.size (.slice (some ⟨w.heap.size, 0, none⟩) p p) (sqTo p 0) (w1.alloc (.cells #[.slice (some ⟨w.heap.size, 0, none⟩) p p] 70))) := Lib.hid (World.ownsRow.alloc O1.out _)
  have X2 := Lib.hid hBx
  have HLT : Hid (w.heap.size < w1.heap.size) := Lib.hid (World.ownsRow.lt O1.out w.heap.size rfl).2
  generalize w1.alloc (.cells #[.slice (some ⟨w.heap.size, 0, none⟩) p p] 70) = w2 at *
  generalize w1.heap.size = bx at *
  clear O1 hB1 hBx
  go_loopw [8] (fun i wr => ∃ k : Nat, k ≤ p ∧ i = .int .i64 k ∧ Hid (OwnT w.heap.size (.slice (some ⟨w.heap.size, 0, none⟩) p p) (sqTo p k) wr) ∧ Hid (Boxed wr bx 70 (.slice (some ⟨w.heap.size, 0, none⟩) p p)) ∧ Hid (Below w.heap.size w wr)) (fun i _ => p - (intOf i).toNat)
  case atStart => exact ⟨0, by omega, rfl, O2, X2, B2⟩
  case round =>
    clear O2 X2 B2
    obtain ⟨k, hk, rfl, O3, X3, B3⟩ := hrel
    by_cases hlt : k < p
    · have hdk : decide ((k : Int) < (p : Int)) = true := by simp; omega
      obtain ⟨m, hm⟩ : ∃ m, m = k * k := ⟨_, rfl⟩
      obtain ⟨r, hr⟩ : ∃ r, r = m % p := ⟨_, rfl⟩
      have hpz : ¬ p = 0 := by omega
      have hm0 : m ≤ 4096 := by rw [hm]; exact Nat.mul_le_mul (show k ≤ 64 by omega) (show k ≤ 64 by omega)
      have hr0 : r < p := by rw [hr]; exact Nat.mod_lt _ hp0
      have hw1 : IntKind.i64.wrap ((k : Int) * (k : Int)) = (m : Int) := by rw [show (k : Int) * (k : Int) = (m : Int) by rw [hm]; rfl]; exact IntWalk.i64_in _ (by omega)
      have hm1 : (m : Int).tmod (p : Int) = (r : Int) := by rw [Int.tmod_eq_emod_of_nonneg (by omega), hr]; rfl
      have hm2 : (m : Int) % (p : Int) = (r : Int) := by rw [hr]; rfl
      have hr2 : (r : Int) < (p : Int) := by omega
      have HS := Lib.hid (sqTo_succ p k hp0)
      rw [← hm, ← hr] at HS
      have hl := sqTo_len p k
      have o3 : OwnT w.heap.size (.slice (some ⟨w.heap.size, 0, none⟩) (sqTo p k).length p) (sqTo p k) wr := by rw [hl]; exact O3.out
      have c1 := o3.cell r (by omega)
      have f1 := o3.free r
      have O4 := o3.stored r true
      rw [hl, HS.out] at O4
      have HO4 := Lib.hid O4
      have hne := HLT.out
      have X4 : Hid (Boxed (wr.setCell ⟨w.heap.size, r, none⟩ (.bool true)) bx 70 (.slice (some ⟨w.heap.size, 0, none⟩) p p)) := Lib.hid (X3.out.kept (grown_set _ _ _ _) (by simp; omega))
      have B4 : Hid (Below w.heap.size w (wr.setCell ⟨w.heap.size, r, none⟩ (.bool true))) := Lib.hid (B3.out.setCell (p := ⟨w.heap.size, r, none⟩) (Nat.le_refl _) _)
      have e0 := X3.out.cell
      have e1 := X4.out.cell
      generalize (sqTo p k).getD r false = t at *
      clear o3 O4 hl hm hr O3 HS hne
      go_wp2_with fail
      go_region_held3 (fun w' => w'.cell? ⟨bx, 0, none⟩ = some (.slice (some ⟨w.heap.size, 0, none⟩) p p)) (go_keep) (fail)
      go_wp2_with fail
      exact ⟨⟨k + 1, by omega, by go_num, HO4, X4, Lib.hid B4.out.drew⟩, by simp [intOf]; omega⟩
    · obtain rfl : k = p := by omega
      have hsz3 := B3.out.size
      have HI := Lib.hid (inOrder_any k hp (fun j v => v = leg k j) 54 #[.pointer (some ⟨bx, 0, none⟩)] (fun j v => legendre_enters _ v) wr (fun j hj W hW => by
        refine (legAt_any k j bx w.heap.size w.heap.size hj W ((hW.cell (p := ⟨bx, 0, none⟩) X3.out.lt).trans X3.out.cell) (World.ownsRow.kept O3.out (below_grow hW) (.inr (by simp [Value.ownBlock])))).mono ?_
        rintro e W' ⟨rfl, rfl⟩
        exact ⟨⟨_, rfl, rfl⟩, Below.refl _ _⟩))
      go_wp2_with fail
      refine HI.out.mono ?_
      rintro e w3 ⟨⟨lb, rfl, hS⟩, hb⟩
      have HS := Lib.hid hS
      have HB2 := Lib.hid (B3.out.trans (hb.mono hsz3))
      clear hS hb
      go_wp2_with fail
      go_ret
      exact ⟨⟨lb, rfl, HS.out⟩, HB2.out⟩

end Go.Proofs.Ytclflnpbiiimiaa

namespace Go.Proofs.Ytclflnpbiiimiaa
open Go Go.RowKit Go.Shelf Ieee

set_option maxRecDepth 100000 in
set_option maxHeartbeats 800000 in
theorem implLc (p : Int) : List1F 6 p (lcList p) (lcCode p) := by
  unfold lcList lcCode
  intro w
  have HL := Lib.hid (prime_any p)
  cases h : prI p
  · rw [h] at HL
    rw [if_neg (by decide), if_neg (by decide)]
    go_enter Try.func6, Try.ntmps6
    go_wp2_with fail
    refine (HL.out _).mono ?_
    rintro e w1 ⟨rfl, rfl⟩
    go_wp2_with fail
    go_ret2
    exact ⟨_, rfl, OwnF.zero _ _, Below.refl _ _⟩
  · rw [if_pos rfl, if_pos rfl]
    have hb : 1 ≤ p ∧ p ≤ 64 := by rcases prI_yes h with e | e | e | e | e | e <;> omega
    obtain ⟨n, rfl⟩ : ∃ N : Nat, p = N := ⟨p.toNat, by omega⟩
    rw [h] at HL
    rw [Int.toNat_natCast]
    have HW := Lib.hid (legendre_any n (by omega) (by omega))
    have HN := Lib.hid (numbersOf_any n (by omega) (fun j v => v = leg n j))
    have HE : Hid (∀ L : List Nat, L.length = n → (∀ j, j < n → L.getD j 0 = leg n j) → L = legs n) := Lib.hid (fun L h1 h2 => list_of h1 h2)
    generalize legs n = R at *
    clear h
    go_enter Try.func6, Try.ntmps6
    go_wp2_with fail
    refine (HL.out _).mono ?_
    rintro e w1 ⟨rfl, rfl⟩
    go_wp2_with fail
    refine (HW.out _).mono ?_
    rintro e w1 ⟨⟨lb, rfl, hS⟩, hb1⟩
    have HS := Lib.hid hS
    have B1 := Lib.hid hb1
    clear hS hb1
    go_wp2_with fail
    refine (HN.out _ _ HS.out).mono ?_
    rintro e w2 ⟨v, L, rfl, hO, hlen, hR, hb2⟩
    obtain rfl := HE.out L hlen hR
    have HO := Lib.hid hO
    have B2 := Lib.hid hb2
    clear hO hlen hR hb2
    go_wp2_with fail
    go_ret2
    exact ⟨_, rfl, HO.out.mono B1.out.size, B1.out.trans (B2.out.mono B1.out.size)⟩

end Go.Proofs.Ytclflnpbiiimiaa
