/- Lists of waves that lie in memory: one row of cells, 65 a wave. Condition: none. -/
import Derived.Test.YtjmfffgddmnkmabHk
import Derived.Test.YtjmfffgddmnkmabPlane
import Derived.Deep.MidRow
import Derived.Maps.AppendAt
namespace Go.Proofs.Ytjmfffgddmnkmab
open Go Go.RowKit

/-- the slice v of n waves lies in a block from B on and holds the cells xs, 65 a wave -/
def OwnV (B : Nat) (v : Value) (n : Nat) (xs : List Value) (w : World) : Prop := w.ownsRow B 30 65 v n xs

theorem OwnV.len {B n : Nat} {v : Value} {xs : List Value} {w : World} (h : OwnV B v n xs w) : xs.length = n * 65 := h.1
theorem OwnV.zero (B : Nat) (w : World) : OwnV B (.slice none 0 0) 0 [] w := World.ownsRow_nil _ _ _ _
theorem OwnV.mono {B B' n : Nat} {v : Value} {xs : List Value} {w : World} (h : OwnV B v n xs w) (hb : B' ≤ B) : OwnV B' v n xs w := World.ownsRow.mono h hb
theorem OwnV.alloc {B n : Nat} {v : Value} {xs : List Value} {w : World} (h : OwnV B v n xs w) (o : Obj) : OwnV B v n xs (w.alloc o) := World.ownsRow.alloc h o
theorem OwnV.below {B C n : Nat} {v : Value} {xs : List Value} {w u : World} (h : OwnV B v n xs w) (k : Below C w u) (hC : w.heap.size ≤ C) : OwnV B v n xs u := by
  refine ⟨h.1, ?_⟩
  rcases h.2 with h2 | ⟨g, cap, cur, hv, hb, hg, r⟩
  · exact .inl h2
  · have hlt : g < w.heap.size := (Array.getElem?_eq_some_iff.1 hg).1
    exact .inr ⟨g, cap, cur, hv, hb, by rw [k.block g (by omega)]; exact hg, r⟩
theorem OwnV.kind {B n : Nat} {v : Value} {xs : List Value} {w : World} (h : OwnV B v n xs w) :
    (n = 0 ∧ xs = [] ∧ v = .slice none 0 0) ∨ ∃ g cap, v = .slice (some ⟨g, 0, none⟩) n cap ∧ B ≤ g ∧ g < w.heap.size ∧ n ≤ cap := by
  have hl := h.len
  rcases h.2 with ⟨hv, h2⟩ | ⟨g, cap, cur, hv, hb, hg, r, _⟩
  · exact .inl ⟨h2, List.length_eq_zero_iff.1 (by omega), hv⟩
  · exact .inr ⟨g, cap, hv, hb, (Array.getElem?_eq_some_iff.1 hg).1, r⟩
theorem OwnV.cell {B n g cap : Nat} {xs : List Value} {w : World} (h : OwnV B (.slice (some ⟨g, 0, none⟩) n cap) n xs w) (q : Nat) (hq : q < n * 65) :
    w.cell? ⟨g, q, none⟩ = xs[q]? := World.ownsRow.cellAt h q hq
theorem OwnV.free {B n g cap : Nat} {xs : List Value} {w : World} (h : OwnV B (.slice (some ⟨g, 0, none⟩) n cap) n xs w) (q : Nat) :
    w.frozen? ⟨g, q, none⟩ = false := World.ownsRow.frozenAt h _
theorem OwnV.stored {B n g cap : Nat} {xs : List Value} {w : World} (h : OwnV B (.slice (some ⟨g, 0, none⟩) n cap) n xs w) (q : Nat) (x : Value) :
    OwnV B (.slice (some ⟨g, 0, none⟩) n cap) n (xs.set q x) (w.setCell ⟨g, q, none⟩ x) := (World.ownsRow.stored h q x).1
theorem OwnV.rng {B n : Nat} {v : Value} {xs : List Value} {w : World} (h : OwnV B v n xs w) : Rng v B w.heap.size := World.ownsRow.lt h
theorem OwnV.grown {B n lo hi : Nat} {v : Value} {xs : List Value} {w w' : World} {row : Option Nat} (h : OwnV B v n xs w) (g : w.grownBy w' row) (r : Rng v lo hi) (a : ∀ k, row = some k → k < lo ∨ hi ≤ k) : OwnV B v n xs w' := by
  refine World.ownsRow.kept h g ?_
  cases hb : v.ownBlock
  · exact .inl rfl
  · right
    intro e
    have := r _ hb
    have := a _ e.symm
    omega

/-- some cells of a row are written anew -/
def setMany (xs : List Value) (o : Nat) : List Value → List Value
  | [] => xs
  | v :: r => setMany (xs.set o v) (o + 1) r
theorem setMany_get : ∀ (vs : List Value) (xs : List Value) (o j : Nat), o + vs.length ≤ xs.length → (setMany xs o vs)[j]? = if o ≤ j ∧ j < o + vs.length then vs[j - o]? else xs[j]?
  | [], xs, o, j, _ => by
    rw [setMany, if_neg]
    intro h
    simp only [List.length_nil] at h
    omega
  | v :: r, xs, o, j, h => by
    rw [List.length_cons] at h ⊢
    rw [setMany, setMany_get r (xs.set o v) (o + 1) j (by rw [List.length_set]; omega), List.getElem?_set]
    by_cases h1 : o + 1 ≤ j ∧ j < o + 1 + r.length
    · rw [if_pos h1, if_pos (by omega), show j - o = (j - (o + 1)) + 1 by omega, List.getElem?_cons_succ]
    · rw [if_neg h1]
      by_cases h2 : o = j
      · subst h2
        rw [if_pos rfl, if_pos (by omega), if_pos (by omega), Nat.sub_self, List.getElem?_cons_zero]
      · rw [if_neg h2, if_neg (by omega)]
theorem setMany_len : ∀ (vs : List Value) (xs : List Value) (o : Nat), (setMany xs o vs).length = xs.length
  | [], _, _ => rfl
  | v :: r, xs, o => by rw [setMany, setMany_len r, List.length_set]

theorem OwnV.storedMany {B n g cap : Nat} : ∀ (vs : List Value) (o : Nat) (xs : List Value) (w : World), OwnV B (.slice (some ⟨g, 0, none⟩) n cap) n xs w → OwnV B (.slice (some ⟨g, 0, none⟩) n cap) n (setMany xs o vs) (w.setCells g o vs)
  | [], _, _, _, h => h
  | v :: r, o, xs, w, h => by
    rw [setMany, World.setCells]
    exact OwnV.storedMany r (o + 1) _ _ (h.stored o v)
theorem Below.setCells {C g : Nat} (hg : C ≤ g) : ∀ (vs : List Value) (o : Nat) {w u : World}, Below C w u → Below C w (u.setCells g o vs)
  | [], _, _, _, h => h
  | v :: r, o, w, u, h => by
    rw [World.setCells]
    exact Below.setCells hg r (o + 1) (h.setCell (p := ⟨g, o, none⟩) hg v)

/-- waves of 65 cells each -/
def Ws (Ps : List (Array Value)) : Prop := ∀ P ∈ Ps, P.size = 65
/-- their cells in one row -/
def flatW (Ps : List (Array Value)) : List Value := (Ps.map Array.toList).flatten
theorem Ws.tail {P : Array Value} {Ps : List (Array Value)} (h : Ws (P :: Ps)) : Ws Ps := fun Q hQ => h Q (List.mem_cons_of_mem _ hQ)
theorem flatW_cons (P : Array Value) (Ps : List (Array Value)) : flatW (P :: Ps) = P.toList ++ flatW Ps := by simp [flatW]
theorem flatW_append (Ps Qs : List (Array Value)) : flatW (Ps ++ Qs) = flatW Ps ++ flatW Qs := by simp [flatW]
theorem flatW_one (P : Array Value) : flatW [P] = P.toList := by simp [flatW]
theorem flatW_len : ∀ (Ps : List (Array Value)), Ws Ps → (flatW Ps).length = Ps.length * 65
  | [], _ => rfl
  | P :: Ps, h => by
    rw [flatW_cons, List.length_append, flatW_len Ps h.tail, Array.length_toList, h P (List.mem_cons_self ..), List.length_cons, Nat.succ_mul]
    omega
theorem flatW_get : ∀ (Ps : List (Array Value)), Ws Ps → ∀ (i j : Nat), j < 65 → (flatW Ps)[i * 65 + j]? = (Ps[i]?).bind (fun P => P[j]?)
  | [], _, i, j, _ => by simp [flatW]
  | P :: Ps, h, 0, j, hj => by
    have hP := h P (List.mem_cons_self ..)
    rw [flatW_cons, Nat.zero_mul, Nat.zero_add, List.getElem?_append_left (by rw [Array.length_toList]; omega)]
    simp
  | P :: Ps, h, i + 1, j, hj => by
    have hP := h P (List.mem_cons_self ..)
    rw [flatW_cons, List.getElem?_append_right (by rw [Array.length_toList]; omega), Array.length_toList, hP, show (i + 1) * 65 + j - 65 = i * 65 + j by omega, flatW_get Ps h.tail i j hj, List.getElem?_cons_succ]
theorem flatW_at (Ps : List (Array Value)) (h : Ws Ps) (q : Nat) : (flatW Ps)[q]? = (Ps[q / 65]?).bind (fun P => P[q % 65]?) := by
  have := flatW_get Ps h (q / 65) (q % 65) (by omega)
  rwa [show q / 65 * 65 + q % 65 = q by omega] at this
theorem Ws.set {Ps : List (Array Value)} (h : Ws Ps) (i : Nat) {Q : Array Value} (hQ : Q.size = 65) : Ws (Ps.set i Q) := fun P hP => by
  rcases List.mem_or_eq_of_mem_set hP with h1 | rfl
  · exact h P h1
  · exact hQ
theorem Ws.append {Ps Qs : List (Array Value)} (h : Ws Ps) (k : Ws Qs) : Ws (Ps ++ Qs) := fun P hP => by
  rcases List.mem_append.1 hP with h1 | h1
  · exact h P h1
  · exact k P h1
theorem flatW_set (Ps : List (Array Value)) (h : Ws Ps) (i : Nat) (hi : i < Ps.length) (Q : Array Value) (hQ : Q.size = 65) : setMany (flatW Ps) (i * 65) Q.toList = flatW (Ps.set i Q) := by
  have hl := flatW_len Ps h
  have hm : i * 65 + 65 ≤ Ps.length * 65 := by omega
  apply List.ext_getElem?
  intro q
  rw [setMany_get _ _ _ _ (by rw [Array.length_toList, hQ, hl]; exact hm), flatW_at _ (h.set i hQ), flatW_at _ h, List.getElem?_set, Array.length_toList, hQ]
  by_cases hq : i * 65 ≤ q ∧ q < i * 65 + 65
  · have e : i = q / 65 := by omega
    rw [if_pos hq, if_pos e, if_pos hi, show q - i * 65 = q % 65 by omega, Option.bind_some]
    simp
  · have e : ¬ i = q / 65 := by omega
    rw [if_neg hq, if_neg e]

/-- what is known of a list of waves that came in -/
def CameV (a : Option Addr) (n : Nat) (xs : List Value) (w : World) : Prop :=
  xs.length = n * 65 ∧ (0 < n → ∃ b off, a = some ⟨b, off, none⟩ ∧ b < w.heap.size ∧ ∀ q, q < n * 65 → w.cell? ⟨b, off + q, none⟩ = xs[q]?)
theorem CameV.below {C n : Nat} {a : Option Addr} {xs : List Value} {w u : World} (h : CameV a n xs w) (k : Below C w u) (hC : w.heap.size ≤ C) : CameV a n xs u := by
  refine ⟨h.1, fun hn => ?_⟩
  obtain ⟨b, off, ha, hb, hc⟩ := h.2 hn
  exact ⟨b, off, ha, by have := k.size; omega, fun q hq => by rw [k.cell (p := ⟨b, off + q, none⟩) (show b < C by omega)]; exact hc q hq⟩
theorem OwnV.came {B n : Nat} {v : Value} {xs : List Value} {w : World} (h : OwnV B v n xs w) : ∃ a c, v = .slice a n c ∧ CameV a n xs w := by
  have hl := h.len
  rcases h.kind with ⟨rfl, rfl, rfl⟩ | ⟨g, cap, rfl, hb, hg, _⟩
  · exact ⟨none, 0, rfl, rfl, fun h0 => absurd h0 (by omega)⟩
  · exact ⟨some ⟨g, 0, none⟩, cap, rfl, hl, fun _ => ⟨g, 0, rfl, hg, fun q hq => by rw [Nat.zero_add]; exact h.cell q hq⟩⟩
/-- one wave of a list lies there -/
theorem CameV.range {n : Nat} {a : Option Addr} {Ps : List (Array Value)} {w : World} (h : CameV a n (flatW Ps) w) (hW : Ws Ps) (hn : Ps.length = n) (i : Nat) (P : Array Value) (hi : Ps[i]? = some P) :
    ∃ b off, a = some ⟨b, off, none⟩ ∧ b < w.heap.size ∧ w.rangeAt b (off + i * 65) P.toList := by
  have hlt : i < Ps.length := (List.getElem?_eq_some_iff.1 hi).1
  have hP : P.size = 65 := hW P (List.mem_of_getElem? hi)
  obtain ⟨b, off, ha, hb, hc⟩ := h.2 (by omega)
  refine ⟨b, off, ha, hb, fun j v hv => ?_⟩
  have hj : j < 65 := by
    have := (List.getElem?_eq_some_iff.1 hv).1
    rw [Array.length_toList, hP] at this
    exact this
  have := hc (i * 65 + j) (by omega)
  rw [flatW_get Ps hW i j hj, hi, Option.bind_some] at this
  rw [show off + i * 65 + j = off + (i * 65 + j) by omega, this]
  rw [Array.getElem?_toList] at hv
  exact hv

theorem infoV : (Try.prog.info? 30).map (fun i => (i.zero, i.size, i.bytes)) = some (some (.agg (pic 0 zc)), 65, 520) := by kernel_rfl
theorem madeV (n : Nat) : (madeCells (pic 0 zc) (n * 65)).toList = flatW (List.replicate n (pic 0 zc)) := by
  have hs : (pic 0 zc).size = 65 := pic_size 0 zc zc_size
  have hw : Ws (List.replicate n (pic 0 zc)) := fun P hP => by rw [(List.mem_replicate.1 hP).2]; exact hs
  apply List.ext_getElem?
  intro q
  rw [flatW_at _ hw]
  generalize pic 0 zc = Z at *
  by_cases hq : q < n * 65
  · have h1 : q / 65 < n := by omega
    have h2 : q % 65 < Z.size := by omega
    have e1 : (madeCells Z (n * 65)).toList[q]? = some (Z[q % Z.size]!) := by simp [madeCells, hq]
    rw [e1, List.getElem?_replicate, if_pos h1, Option.bind_some, hs, getElem!_pos Z (q % 65) h2, Array.getElem?_eq_getElem h2]
  · have h1 : ¬ q / 65 < n := by omega
    simp [madeCells, hq, h1]

end Go.Proofs.Ytjmfffgddmnkmab
