/- The program's parseInteger, at the bases 16 and 10. Condition: what the library's variables hold. -/
import Derived.Test.YtjmfffgddmnkmabDoorHx
import Derived.Test.YtjmfffgddmnkmabDoorSh
import Derived.Lib.ParseIntBTie
namespace Go.Proofs.YtjmfffgddmnkmabDoor
open Go Go.RowKit

/-- what the library's variables hold -/
structure Env (w : World) : Prop where
  maxLen : ∃ m, w.cell? ⟨2, 0, none⟩ = some (.int .i64 m)
  syn : ∃ te pe, w.cell? ⟨3, 0, none⟩ = some (.iface te pe)
  rng : ∃ te pe, w.cell? ⟨4, 0, none⟩ = some (.iface te pe)
  pow : Lib.TabIs Tryd.prog w "internal/strconv.uint64pow10" .u64 Lib.pow10Tab
  tz : w.cell? ⟨9, 15, none⟩ = some (.int .u8 4)
  room : 5 < w.heap.size
theorem cell_below {w w' : World} (b : Below w.heap.size w w') (a : Addr) (v : Value) (h : w.cell? a = some v) : w'.cell? a = some v := by
  rw [World.cell?_of_block (w := w) (b.block a.block (World.block_lt_of_cell? _ _ h))]; exact h
theorem var_below {w w' : World} {n : String} {g : Nat} {cs : Array Value} (h : w.var? Tryd.prog n = some cs) (hg : Tryd.prog.globalNamed n = some g) (hb : Below w.heap.size w w') (hlt : g < w.heap.size) : w'.var? Tryd.prog n = some cs := by
  unfold World.var? at h ⊢
  rw [hg] at h ⊢
  simp only [Option.bind_some] at h ⊢
  rw [hb.block g hlt]
  exact h
theorem Env.below {w w' : World} (h : Env w) (b : Below w.heap.size w w') : Env w' := by
  obtain ⟨m, hm⟩ := h.maxLen
  obtain ⟨t1, p1, h1⟩ := h.syn
  obtain ⟨t2, p2, h2⟩ := h.rng
  exact ⟨⟨m, cell_below b _ _ hm⟩, ⟨t1, p1, cell_below b _ _ h1⟩, ⟨t2, p2, cell_below b _ _ h2⟩, var_below h.pow (by kernel_rfl) b h.room, cell_below b _ _ h.tz, Nat.lt_of_lt_of_le h.room b.size⟩

/-- a number and no error, or an error -/
def NumOr (x : Option Int) (e : Ending) : Prop := match x with
  | some v => e = .returned (.tuple #[.int .i64 v, .nilIface])
  | none => ∃ v t p, e = .returned (.tuple #[.int .i64 v, .iface t p])
def okOf : Lib.NumEnd Int → Option Int
  | .ok v => some v
  | _ => none

set_option maxRecDepth 100000 in
set_option maxHeartbeats 2000000 in
theorem parseInt16P (s : ByteArray) (hlim : s.size ≤ 281474976710656) (w : World) (hw : Env w) :
    Calls Tryd.prog 53 #[.string s, .int .i64 16, .int .i64 64] w fun e w' => NumOr (okOf (pi16 s.data.toList)) e ∧ Below w.heap.size w w' := by
  have hP := parseInt16 s (by omega) w
  obtain ⟨t1, p1, h1⟩ := hw.syn
  obtain ⟨t2, p2, h2⟩ := hw.rng
  rcases hx : pi16 s.data.toList with v | _ | _
  · rw [hx] at hP
    have HP : Hid (Calls Tryd.prog 71 #[.string s, .int .i64 16, .int .i64 64] w fun e w' => e = .returned (.tuple #[.int .i64 v, .nilIface]) ∧ Below w.heap.size w w') := Lib.hid hP
    clear hP
    go_enter Tryd.func53, Tryd.ntmps53
    go_wp2_with (go_at_call 71; refine HP.out.mono ?_; rintro e w1 ⟨rfl, b1⟩)
    go_ret2
    exact ⟨rfl, b1⟩
  · rw [hx] at hP
    have HP : Hid (Calls Tryd.prog 71 #[.string s, .int .i64 16, .int .i64 64] w fun e w' => (∃ v, e = .returned (.tuple #[.int .i64 v, .iface 118 (.int .i64 2)])) ∧ Below w.heap.size w w') := Lib.hid hP
    clear hP
    go_enter Tryd.func53, Tryd.ntmps53
    go_wp2_with (go_at_call 71; refine HP.out.mono ?_; rintro e w1 ⟨⟨v, rfl⟩, b1⟩)
    refine (Tryd.strconv_toError_syntax _ s 16 64 (.iface t1 p1) w1 hlim (cell_below b1 _ _ h1) (.inr ⟨t1, p1, rfl⟩)).mono ?_
    rintro e w2 ⟨N, rfl, _, _, b2⟩
    go_wp2_with fail
    go_ret2
    exact ⟨⟨_, _, _, rfl⟩, b1.trans (b2.mono b1.size)⟩
  · rw [hx] at hP
    have HP : Hid (Calls Tryd.prog 71 #[.string s, .int .i64 16, .int .i64 64] w fun e w' => (∃ v, e = .returned (.tuple #[.int .i64 v, .iface 118 (.int .i64 1)])) ∧ Below w.heap.size w w') := Lib.hid hP
    clear hP
    go_enter Tryd.func53, Tryd.ntmps53
    go_wp2_with (go_at_call 71; refine HP.out.mono ?_; rintro e w1 ⟨⟨v, rfl⟩, b1⟩)
    refine (Tryd.strconv_toError_range _ s 16 64 (.iface t2 p2) w1 hlim (cell_below b1 _ _ h2) (.inr ⟨t2, p2, rfl⟩)).mono ?_
    rintro e w2 ⟨N, rfl, _, _, b2⟩
    go_wp2_with fail
    go_ret2
    exact ⟨⟨_, _, _, rfl⟩, b1.trans (b2.mono b1.size)⟩

theorem parseInt10P (s : ByteArray) (hlim : s.size ≤ 281474976710656) (w : World) (hw : Env w) :
    Calls Tryd.prog 53 #[.string s, .int .i64 10, .int .i64 64] w fun e w' => NumOr (okOf (Lib.parseIntB 64 s.data.toList)) e ∧ Below w.heap.size w w' := by
  obtain ⟨t1, p1, h1⟩ := hw.syn
  obtain ⟨t2, p2, h2⟩ := hw.rng
  rcases hx : Lib.parseIntB 64 s.data.toList with v | _ | _
  · refine (Tryd.strconv_ParseInt_10_at64_ok s (by omega) v hx w).mono fun e w' ⟨he, hb⟩ => ⟨he, ?_⟩
    rcases hb with rfl | ⟨t, rfl⟩
    · exact Below.refl _ _
    · exact Lib.bytesWorld_below _ _ _
  · exact (Tryd.strconv_ParseInt_10_at64_syntax s hlim hx (.iface t1 p1) w h1 (.inr ⟨t1, p1, rfl⟩)).mono fun e w' ⟨N, he, _, _, b⟩ => ⟨⟨_, _, _, he⟩, b⟩
  · exact (Tryd.strconv_ParseInt_10_at64_range s hlim hx (.iface t2 p2) w h2 (.inr ⟨t2, p2, rfl⟩)).mono fun e w' ⟨N, he, _, _, b⟩ => ⟨⟨_, _, _, he⟩, b⟩

/-- the text of a number to a base -/
def textTo (base : Int) (v : Int) : List UInt8 := if base = 16 then hexText v else Lib.itoa v
def readTo (base : Int) (l : List UInt8) : Option Int := if base = 16 then okOf (pi16 l) else okOf (Lib.parseIntB 64 l)
/-- the program's reading of a text to a base -/
def numOf (base : Int) (l : List UInt8) : Option Int := match readTo base l with
  | some v => if textTo base v = l then some v else none
  | none => none
theorem numOf_16 (l : List UInt8) : numOf 16 l = partOf l := by
  unfold numOf readTo partOf
  rw [if_pos rfl]
  cases pi16 l <;> rfl
/-- a number and true, or 0 and false -/
def pairOf : Option Int → Value
  | some v => .tuple #[.int .i64 v, .bool true]
  | none => .tuple #[.int .i64 0, .bool false]

theorem sgn64_range (neg : Bool) (x : Lib.NumEnd Nat) (v : Int) (h : sgn64 neg x = .ok v) : -9223372036854775808 ≤ v ∧ v ≤ 9223372036854775807 := by
  rcases x with u | _ | _
  · cases neg
    · rw [sgn64_f] at h
      split at h
      · cases h
      · injection h with h; omega
    · rw [sgn64_t] at h
      split at h
      · cases h
      · injection h with h; omega
  · cases h
  · cases h
theorem okOf_some {x : Lib.NumEnd Int} {v : Int} (h : okOf x = some v) : x = .ok v := by
  rcases x with u | _ | _
  · injection h with h; rw [h]
  · cases h
  · cases h
theorem pi16_range (l : List UInt8) (v : Int) (h : okOf (pi16 l) = some v) : -9223372036854775808 ≤ v ∧ v ≤ 9223372036854775807 := by
  have h := okOf_some h
  cases l with
  | nil => cases h
  | cons c r =>
    rw [pi16_cons] at h
    split at h
    · exact sgn64_range _ _ _ h
    · split at h
      · exact sgn64_range _ _ _ h
      · exact sgn64_range _ _ _ h
theorem int10_range (l : List UInt8) (v : Int) (h : okOf (Lib.parseIntB 64 l) = some v) : -9223372036854775808 ≤ v ∧ v ≤ 9223372036854775807 := by
  have h := Lib.parseIntB_bounds (okOf_some h)
  have e : ((2 ^ (64 - 1) : Nat) : Int) = 9223372036854775808 := by decide
  rw [e] at h
  omega
theorem below_grown (w : World) (k : Nat) (os : Array Obj) : Below w.heap.size w (Sort.grow (w.drewN k) os) :=
  ⟨rfl, rfl, rfl, by show w.heap.size ≤ (w.heap ++ os).size; rw [Array.size_append]; omega, fun j hj => by show (w.heap ++ os)[j]? = _; rw [Array.getElem?_append_left hj]⟩

set_option maxRecDepth 100000 in
set_option maxHeartbeats 2000000 in
theorem parseInteger_any (base : Int) (hbase : base = 16 ∨ base = 10) (s : ByteArray) (hlim : s.size ≤ 281474976710656) (w : World) (hw : Env w) :
    Calls Tryd.prog 20 #[.string s, .int .i64 base] w fun e w' => e = .returned (pairOf (numOf base s.data.toList)) ∧ Below w.heap.size w w' := by
  have hP : Calls Tryd.prog 53 #[.string s, .int .i64 base, .int .i64 64] w fun e w' => NumOr (readTo base s.data.toList) e ∧ Below w.heap.size w w' := by
    rcases hbase with rfl | rfl
    · exact parseInt16P s hlim w hw
    · exact parseInt10P s hlim w hw
  have hrange : ∀ v, readTo base s.data.toList = some v → -9223372036854775808 ≤ v ∧ v ≤ 9223372036854775807 := by
    intro v hv
    rcases hbase with rfl | rfl
    · exact pi16_range _ v hv
    · exact int10_range _ v hv
  have hF : ∀ v, -9223372036854775808 ≤ v ∧ v ≤ 9223372036854775807 → ∀ w, Env w → Calls Tryd.prog 54 #[.int .i64 v, .int .i64 base] w fun e w' => e = .returned (.string ⟨(textTo base v).toArray⟩) ∧ Below w.heap.size w w' := by
    intro v hv w hw
    rcases hbase with rfl | rfl
    · exact formatInt16 v hv.1 hv.2 w hw.tz
    · refine (Tryd.strconv_FormatInt_10 v hv.1 hv.2 w hw.pow).mono fun e w' ⟨he, k, os, hk⟩ => ⟨he, ?_⟩
      rw [hk]
      exact below_grown w k os
  have HF := Lib.hid hF
  clear hF
  cases hx : readTo base s.data.toList with
  | none =>
    have hn : numOf base s.data.toList = none := by unfold numOf; rw [hx]
    rw [hx] at hP
    have HP : Hid (Calls Tryd.prog 53 #[.string s, .int .i64 base, .int .i64 64] w fun e w' => (∃ v t p, e = .returned (.tuple #[.int .i64 v, .iface t p])) ∧ Below w.heap.size w w') := Lib.hid hP
    rw [hn]
    clear hP hn hx hrange HF
    go_enter Tryd.func20, Tryd.ntmps20
    go_wp2_with (go_at_call 53; refine HP.out.mono ?_; rintro e w1 ⟨⟨v, t, p, rfl⟩, b1⟩)
    go_ret2
    exact ⟨rfl, b1⟩
  | some v =>
    have hv := hrange v hx
    rw [hx] at hP
    have HP : Hid (Calls Tryd.prog 53 #[.string s, .int .i64 base, .int .i64 64] w fun e w' => e = .returned (.tuple #[.int .i64 v, .nilIface]) ∧ Below w.heap.size w w') := Lib.hid hP
    have HW := Lib.hid hw
    have hn : numOf base s.data.toList = if textTo base v = s.data.toList then some v else none := by unfold numOf; rw [hx]
    rw [hn]
    have HFv := Lib.hid (HF.out v hv)
    clear hP hn hx hrange HF hw
    by_cases ht : textTo base v = s.data.toList
    · rw [if_pos ht]
      have he : (⟨(textTo base v).toArray⟩ : ByteArray) = s := by rw [ht]
      rw [he] at HFv
      clear ht he
      go_enter Tryd.func20, Tryd.ntmps20
      go_wp2_with (go_at_call 53; refine HP.out.mono ?_; rintro e w1 ⟨rfl, b1⟩)
      refine (HFv.out w1 (HW.out.below b1)).mono ?_
      rintro e w2 ⟨rfl, b2⟩
      go_wp2_with fail
      go_ret2
      exact ⟨rfl, b1.trans (b2.mono b1.size)⟩
    · rw [if_neg ht]
      have he : ¬ (⟨(textTo base v).toArray⟩ : ByteArray) = s := fun e => ht (by rw [← e])
      generalize (⟨(textTo base v).toArray⟩ : ByteArray) = t at *
      clear ht
      have hq : (t.toList == s.toList) = false := by
        rw [ByteArray.toList_eq, ByteArray.toList_eq]
        exact beq_false_of_ne fun h => he (by rw [← Lib.mk_data t, ← Lib.mk_data s, h])
      go_enter Tryd.func20, Tryd.ntmps20
      go_wp2_with (go_at_call 53; refine HP.out.mono ?_; rintro e w1 ⟨rfl, b1⟩)
      refine (HFv.out w1 (HW.out.below b1)).mono ?_
      rintro e w2 ⟨rfl, b2⟩
      go_wp2_with fail
      go_ret2
      exact ⟨rfl, b1.trans (b2.mono b1.size)⟩
end Go.Proofs.YtjmfffgddmnkmabDoor
