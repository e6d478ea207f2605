/- What a row of the program's halftones is made of: its numbers, and the channels that its halves go over. Condition: levels that are numbers. -/
import Derived.Test.YtjmfffgddmnkmabDoorLc
import Derived.Test.YtjmfffgddmnkmabDoorHc
namespace Go.Proofs.YtjmfffgddmnkmabDoor
open Go Go.RowKit Go.Conc

theorem hT_keep (n t d : Nat) (L : Nat → Nat) (z : Bool) (j k : Nat) (h : j < k) : ∀ m, hT n t d L z (k + m) j = hT n t d L z k j
  | 0 => rfl
  | m + 1 => by
    have := hT_other n t d L z (k + m) j (by omega)
    rw [Nat.add_assoc] at this
    rw [this]
    exact hT_keep n t d L z j k h m

/-- what comes from above a cell -/
def upAt (n y x : Nat) (G : Nat → Nat) : Nat := if y = 0 then 0 else G (n * (y - 1) + x)
/-- what comes from the left -/
def leftAt (p x : Nat) (H : Nat → Nat) : Nat := if x = 0 then 0 else H (p + x - 1)

theorem row_cell {n t d : Nat} {L : Nat → Nat} (h : HtOk n t d L) (y x p : Nat) (hp : n * y = p) (hn : 1 ≤ n ∧ n ≤ 8) (hy : y < n) (hx : x < n) (ho : okT n t d L true (p + x) = true) :
    ∃ a s r, floatBits .add .f32 (L (p + x)) (upAt n y x (hT n t d L true p)) = some a ∧ (fin a = false → okT n t d L true (p + n) = false) ∧
      (fin a = true → floatBits .add .f32 a (leftAt p x (hT n t d L true (p + n))) = some s) ∧ (fin s = false → okT n t d L true (p + n) = false) ∧ dot n t d L true (p + x) = mark (geT s t) ∧
      (fin s = true → (geT s t = true → fin d = true → floatBits .sub .f32 s d = some r) ∧ (geT s t = true → fin d = false → okT n t d L true (p + n) = false) ∧ (geT s t = false → r = s) ∧
        ((geT s t = true → fin d = true) → floatBits .quo .f32 r 1073741824 = some (hT n t d L true (p + n) (p + x)) ∧ okT n t d L true (p + (x + 1)) = true)) := by
  have h64 : p + n ≤ 64 := by
    have : n * (y + 1) = p + n := by rw [Nat.mul_succ, hp]
    rw [← this]
    exact Nat.le_trans (Nat.mul_le_mul hn.2 (show y + 1 ≤ 8 by omega)) (by decide)
  have hmod : (p + x) % n = x := by rw [← hp, Nat.mul_add_mod, Nat.mod_eq_of_lt hx]
  obtain ⟨a, s, h1, h2, h3, h4, h5, h6⟩ := prog_cell h (p + x) (by omega) ho
  have no : ∀ k, k ≤ p + n → okT n t d L true k = false → okT n t d L true (p + n) = false := fun k hk hh => okT_no n t d L true k (p + n) hk hh
  have e1 : (if n ≤ p + x then hT n t d L true (p + x) (p + x - n) else 0) = upAt n y x (hT n t d L true p) := by
    unfold upAt
    by_cases hy0 : y = 0
    · subst hy0
      have : p = 0 := by rw [← hp, Nat.mul_zero]
      subst this
      rw [if_neg (by omega), if_pos rfl]
    · have hy1 : n * (y - 1) + n = p := by rw [← hp, ← Nat.mul_succ, show (y - 1).succ = y by omega]
      rw [if_pos (by omega), if_neg hy0, show p + x - n = n * (y - 1) + x by omega]
      exact hT_keep n t d L true _ p (by omega) x
  have e2 : (if 0 < (p + x) % n then hT n t d L true (p + x) (p + x - 1) else 0) = leftAt p x (hT n t d L true (p + n)) := by
    unfold leftAt
    rw [hmod]
    by_cases hx0 : x = 0
    · rw [if_neg (by omega), if_pos hx0]
    · rw [if_pos (by omega), if_neg hx0]
      have := hT_keep n t d L true (p + x - 1) (p + x) (by omega) (n - x)
      rw [show p + x + (n - x) = p + n by omega] at this
      exact this.symm
  have e3 : cellH t d s = hT n t d L true (p + n) (p + x) := by
    have := hT_keep n t d L true (p + x) (p + x + 1) (by omega) (n - x - 1)
    rw [show p + x + 1 + (n - x - 1) = p + n by omega, hT_at, ← h4] at this
    exact this.symm
  rw [e1] at h1
  rw [e2] at h3
  refine ⟨a, s, cellR t d s, h1, fun hf => no _ (by omega) (h2 hf), h3, fun hf => no _ (by omega) (h5 hf), by unfold dot; rw [h4], fun hf => ?_⟩
  obtain ⟨g1, g2, g3, g4⟩ := h6 hf
  refine ⟨g1, fun u v => no _ (by omega) (g2 u v), g3, fun hh => ?_⟩
  rw [← e3]
  exact g4 hh

/-! ### the channels -/
def upBuf (n y x : Nat) (G : Nat → Nat) : Array Value := Array.ofFn (n := n - x) fun i => .float .f32 (G (n * (y - 1) + (x + i.val)))
/-- the channel from above, x numbers having been received -/
def AboveAt (n : Nat) (G : Nat → Nat) (y x : Nat) : Obj := if y = 0 then .chan 0 #[] true 0 0 false else .chan n (upBuf n y x G) true n x false
def dnBuf (p x : Nat) (H : Nat → Nat) : Array Value := Array.ofFn (n := x) fun i => .float .f32 (H (p + i.val))
/-- the channel to below, x numbers having been sent -/
def BelowAt (n : Nat) (H : Nat → Nat) (p x : Nat) : Obj := .chan n (dnBuf p x H) false x 0 false

theorem above_start (n : Nat) (G : Nat → Nat) (y : Nat) : Above n G y = AboveAt n G y 0 := by
  unfold Above AboveAt
  by_cases hy : y = 0
  · rw [if_pos hy, if_pos hy]
  · rw [if_neg hy, if_neg hy]
    congr 1
    unfold upBuf
    simp
theorem above_next (n : Nat) (H : Nat → Nat) (y p : Nat) (hp : n * y = p) : (Obj.chan n (dnBuf p n H) true n 0 false) = Above n H (y + 1) := by
  unfold Above dnBuf
  rw [if_neg (by omega), Nat.add_sub_cancel, hp]
theorem upBuf_size (n y x : Nat) (G : Nat → Nat) : (upBuf n y x G).size = n - x := by simp [upBuf]
theorem upBuf_first (n y x : Nat) (G : Nat → Nat) (hx : x < n) : (upBuf n y x G).getD 0 undef = .float .f32 (G (n * (y - 1) + x)) := by
  have h : (upBuf n y x G)[0]? = some (.float .f32 (G (n * (y - 1) + x))) := by
    unfold upBuf
    rw [Array.getElem?_ofFn, dif_pos (by omega)]
    rfl
  rw [Array.getD_eq_getD_getElem?, h]; rfl
theorem upBuf_rest (n y x : Nat) (G : Nat → Nat) : (upBuf n y x G).extract 1 (upBuf n y x G).size = upBuf n y (x + 1) G := by
  apply Array.ext_getElem?
  intro i
  rw [Array.getElem?_extract, upBuf_size]
  unfold upBuf
  rw [Array.getElem?_ofFn]
  by_cases h : i < n - (x + 1)
  · rw [if_pos (by omega), Array.getElem?_ofFn, dif_pos (by omega), dif_pos h]
    congr 3
    show n * (y - 1) + (x + (1 + i)) = n * (y - 1) + (x + 1 + i)
    omega
  · rw [if_neg (by omega), Array.getElem?_ofFn, dif_neg h]
theorem dnBuf_size (p x : Nat) (H : Nat → Nat) : (dnBuf p x H).size = x := by simp [dnBuf]
theorem dnBuf_push (p x : Nat) (H : Nat → Nat) : (dnBuf p x H).push (.float .f32 (H (p + x))) = dnBuf p (x + 1) H := by
  apply Array.ext_getElem?
  intro i
  rw [Array.getElem?_push, dnBuf_size]
  unfold dnBuf
  rw [Array.getElem?_ofFn, Array.getElem?_ofFn]
  by_cases h : i = x
  · subst h; rw [if_pos rfl, dif_pos (by omega)]
  · rw [if_neg h]
    by_cases h2 : i < x
    · rw [dif_pos h2, dif_pos (by omega)]
    · rw [dif_neg h2, dif_neg (by omega)]

section
variable {P : Program} {ops : Array Oper} {Q : Exit → Act → World → Prop} {a : Act} {w : World}
theorem heap_setChan_other (w : World) (c cap : Nat) (buf : Array Value) (cl : Bool) (s r : Nat) (tm : Bool) (k : Nat) (h : k ≠ c) : (w.setChan c cap buf cl s r tm).heap[k]? = w.heap[k]? := by
  simp only [World.setChan]
  exact Array.getElem?_setIfInBounds_ne (Ne.symm h)
theorem opsTo_recv_above {i : Nat} {rest : List Nat} {o : Oper} {c n y x : Nat} {G : Nat → Nat} (hx : x < n) (hc : w.heap[c]? = some (AboveAt n G y x)) (ho : ops[i]? = some o) (hw : Region.wanted o (yielded ops a.tmps) = true)
    (hr : (execOp a.eval o).run P w = .ok (.comm #[rcase c (.float .f32 0)] true (.recv false)) w)
    (h : ∀ w', w'.heap[c]? = some (AboveAt n G y (x + 1)) → (∀ k, k ≠ c → w'.heap[k]? = w.heap[k]?) → (∀ B, B ≤ c → Below B w w') → OpsTo P ops Q rest (a.put o.dst (.float .f32 (upAt n y x G))) w') : OpsTo P ops Q (i :: rest) a w := by
  by_cases hy : y = 0
  · subst hy
    have e : ∀ x, AboveAt n G 0 x = .chan 0 #[] true 0 0 false := fun x => by unfold AboveAt; rw [if_pos rfl]
    rw [e] at hc
    refine opsTo_recv_shut ho hw hr hc ?_
    have hh := h w (by rw [e]; exact hc) (fun _ _ => rfl) (fun B _ => Below.refl _ _)
    unfold upAt at hh
    rw [if_pos rfl] at hh
    exact hh
  · have e : ∀ x, AboveAt n G y x = .chan n (upBuf n y x G) true n x false := fun x => by unfold AboveAt; rw [if_neg hy]
    rw [e] at hc
    refine opsTo_recv_buf ho hw hr hc (by rw [upBuf_size]; omega) ?_
    have hlt := (Array.getElem?_eq_some_iff.1 hc).1
    rw [upBuf_rest, upBuf_first n y x G hx]
    have hh := h _ (by rw [e]; exact heap_setChan w c n (upBuf n y (x + 1) G) true n (x + 1) false hlt) (fun k hk => heap_setChan_other _ _ _ _ _ _ _ _ k hk) (fun B hB => below_setChan (Below.refl _ _) hB _ _ _ _ _ _)
    unfold upAt at hh
    rw [if_neg hy] at hh
    exact hh
theorem opsTo_send_below {i : Nat} {rest : List Nat} {o : Oper} {c n p x : Nat} {H : Nat → Nat} {z' : Value} (hx : x < n) (hc : w.heap[c]? = some (BelowAt n H p x)) (ho : ops[i]? = some o) (hw : Region.wanted o (yielded ops a.tmps) = true)
    (hr : (execOp a.eval o).run P w = .ok (.comm #[scase c (.float .f32 (H (p + x))) z'] true .send) w)
    (h : ∀ w', w'.heap[c]? = some (BelowAt n H p (x + 1)) → (∀ k, k ≠ c → w'.heap[k]? = w.heap[k]?) → (∀ B, B ≤ c → Below B w w') → OpsTo P ops Q rest (a.put o.dst undef) w') : OpsTo P ops Q (i :: rest) a w := by
  have hlt := (Array.getElem?_eq_some_iff.1 hc).1
  refine opsTo_send ho hw hr hc (by rw [dnBuf_size]; omega) ?_
  rw [dnBuf_push]
  exact h _ (heap_setChan w c n (dnBuf p (x + 1) H) false (x + 1) 0 false hlt) (fun k hk => heap_setChan_other _ _ _ _ _ _ _ _ k hk) (fun B hB => below_setChan (Below.refl _ _) hB _ _ _ _ _ _)
theorem opsTo_drop (l0 : List Oper) (k : Nat) (h : wpList P l0.toArray Q (l0.drop k) a w) : OpsTo P l0.toArray Q (List.range' k (l0.length - k)) a w := by
  have e := wpOps_eq_wpList (P := P) (ops := l0.toArray) (Q := Q) (l0.drop k) k (fun j => by simp)
  rw [List.length_drop] at e
  exact opsTo_of (by rw [e]; exact h)
end
/-- a row's world while it is made: the marks up to xq, what is received up to xu, what is sent up to xd -/
structure RowW (n t d p y b q c0 c2 : Nat) (L : Nat → Nat) (cs : Array Value) (G H : Nat → Nat) (v : World) (xq xu xd : Nat) (w : World) : Prop where
  qa : w.heap[q]? = some (.cells (pic n (gf (dot n t d L true) (p + xq))) 25 (0, 0))
  ba : w.heap[b]? = some (.cells cs 36 (0, 0))
  up : w.heap[c0]? = some (AboveAt n G y xu)
  dn : w.heap[c2]? = some (BelowAt n H p xd)
  bl : ∀ B, B ≤ q → B ≤ c0 → B ≤ c2 → Below B v w
structure Apart (b q c0 c2 : Nat) : Prop where
  bq : b ≠ q
  bc : b ≠ c0
  bd : b ≠ c2
  qc : q ≠ c0
  qd : q ≠ c2
  cd : c0 ≠ c2
section
variable {n t d p y b q c0 c2 : Nat} {L : Nat → Nat} {cs : Array Value} {G H : Nat → Nat} {v : World} {xq xu xd : Nat} {w : World}
theorem RowW.drewN (h : RowW n t d p y b q c0 c2 L cs G H v xq xu xd w) (m : Nat) : RowW n t d p y b q c0 c2 L cs G H v xq xu xd (w.drewN m) :=
  ⟨h.qa, h.ba, h.up, h.dn, fun B h1 h2 h3 => below_drewN (h.bl B h1 h2 h3) m⟩
theorem RowW.recv (h : RowW n t d p y b q c0 c2 L cs G H v xq xu xd w) (A : Apart b q c0 c2) {w' : World} (h1 : w'.heap[c0]? = some (AboveAt n G y (xu + 1))) (h2 : ∀ k, k ≠ c0 → w'.heap[k]? = w.heap[k]?) (h3 : ∀ B, B ≤ c0 → Below B w w') :
    RowW n t d p y b q c0 c2 L cs G H v xq (xu + 1) xd w' :=
  ⟨by rw [h2 _ A.qc]; exact h.qa, by rw [h2 _ A.bc]; exact h.ba, h1, by rw [h2 _ A.cd.symm]; exact h.dn, fun B g1 g2 g3 => (h.bl B g1 g2 g3).trans (h3 B g2)⟩
theorem RowW.send (h : RowW n t d p y b q c0 c2 L cs G H v xq xu xd w) (A : Apart b q c0 c2) {w' : World} (h1 : w'.heap[c2]? = some (BelowAt n H p (xd + 1))) (h2 : ∀ k, k ≠ c2 → w'.heap[k]? = w.heap[k]?) (h3 : ∀ B, B ≤ c2 → Below B w w') :
    RowW n t d p y b q c0 c2 L cs G H v xq xu (xd + 1) w' :=
  ⟨by rw [h2 _ A.qd]; exact h.qa, by rw [h2 _ A.bd]; exact h.ba, by rw [h2 _ A.cd]; exact h.up, h1, fun B g1 g2 g3 => (h.bl B g1 g2 g3).trans (h3 B g3)⟩
theorem RowW.store (h : RowW n t d p y b q c0 c2 L cs G H v xq xu xd w) (A : Apart b q c0 c2) (hk : p + xq < 64) :
    RowW n t d p y b q c0 c2 L cs G H v (xq + 1) xu xd (w.setCell ⟨q, 1 + (p + xq), none⟩ (.complex .f32 (dot n t d L true (p + xq)).1 (dot n t d L true (p + xq)).2)) := by
  refine ⟨?_, ?_, ?_, ?_, fun B h1 h2 h3 => (h.bl B h1 h2 h3).setCell h1 _⟩
  · have := heap_setCell_same w q (1 + (p + xq)) _ _ (.complex .f32 (dot n t d L true (p + xq)).1 (dot n t d L true (p + xq)).2) h.qa
    rw [gf_set n (dot n t d L true) (p + xq) hk] at this
    exact this
  · rw [heap_setCell_other _ _ _ _ A.bq]; exact h.ba
  · rw [heap_setCell_other _ _ _ _ A.qc.symm]; exact h.up
  · rw [heap_setCell_other _ _ _ _ A.qd.symm]; exact h.dn
theorem RowW.close (h : RowW n t d p y b q c0 c2 L cs G H v xq xu xd w) (A : Apart b q c0 c2) :
    (invoke (.builtin .close #[96] 0 #[false]) #[.chan (some c2)]).run Tryd.prog w = .ok (.value (.tuple #[])) (w.setChan c2 n (dnBuf p xd H) true xd 0 false) ∧
      (w.setChan c2 n (dnBuf p xd H) true xd 0 false).heap[c2]? = some (.chan n (dnBuf p xd H) true xd 0 false) ∧ (w.setChan c2 n (dnBuf p xd H) true xd 0 false).heap[q]? = some (.cells (pic n (gf (dot n t d L true) (p + xq))) 25 (0, 0)) ∧
      ∀ B, B ≤ q → B ≤ c0 → B ≤ c2 → Below B v (w.setChan c2 n (dnBuf p xd H) true xd 0 false) := by
  have hlt := (Array.getElem?_eq_some_iff.1 h.dn).1
  refine ⟨?_, heap_setChan _ _ _ _ _ _ _ _ hlt, by rw [heap_setChan_other _ _ _ _ _ _ _ _ _ A.qd]; exact h.qa, fun B h1 h2 h3 => below_setChan (h.bl B h1 h2 h3) h3 _ _ _ _ _ _⟩
  have := run_close_open (P := Tryd.prog) (w := w) #[96] 0 h.dn
  simp [invoke, builtin, this, World.setChan]
end
end Go.Proofs.YtjmfffgddmnkmabDoor
